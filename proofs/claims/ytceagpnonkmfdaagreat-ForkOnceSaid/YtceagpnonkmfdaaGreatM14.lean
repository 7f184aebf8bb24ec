/- Merged: Lw, Ly, Lt1, Lt2, Lt3, Lt4, Lt5, Lt6, Va, Vt. -/
import Derived.Test.YtceagpnonkmfdaaGreatM11
import Derived.Test.YtceagpnonkmfdaaGreatM12
import Derived.Test.YtceagpnonkmfdaaGreatM13
import Derived.Test.YtceagpnonkmfdaaGreatM10
import Derived.StillTailTactics
import Derived.Test.YtceagpnonkmfdaaGreatM08
import Derived.Test.YtceagpnonkmfdaaGreatM05
import Derived.Deep.Strs
section
namespace Go.Proofs.YtceagpnonkmfdaaGreat
open Go.RowKit

theorem bel_then {A B C : World} (h1 : Below A.heap.size A B) (h2 : Below B.heap.size B C) : Below A.heap.size A C := h1.trans (h2.mono h1.size)
theorem bel_al (A : World) (o : Obj) : Below A.heap.size A (A.alloc o) := (Below.refl _ _).alloc (Nat.le_refl _) _
def cat : Fo := .text [99, 97, 116] (.text [100, 111, 103] .nil)
theorem dec_cat : decP [200, 131, 99, 97, 116, 131, 100, 111, 103] = some (.list cat .nil) := by kernel_rfl
theorem dec_five : decP [129, 5] = none := by kernel_rfl
theorem cat_enc : (It.list cat).enc = [200, 131, 99, 97, 116, 131, 100, 111, 103] := by kernel_rfl
theorem cat_sho : (It.list cat).sho = [91, 34, 54, 51, 54, 49, 55, 52, 34, 32, 34, 54, 52, 54, 102, 54, 55, 34, 93] := by kernel_rfl
theorem num_1024 : num 1024 = [4, 0] := by
  rw [num_pos (by decide), show 1024 / 256 = 4 from rfl, num_pos (by decide), show 4 / 256 = 0 from rfl, num_zero]
  rfl
theorem dec1_c (w : World) : Calls Tryz.prog 52 #[.string ⟨#[200, 131, 99, 97, 116, 131, 100, 111, 103]⟩] w fun e w' => ∃ b s a n c, e = .returned (.tuple #[.agg #[.bool b, .string s, .slice a n c], .int .i64 0]) ∧ ItV (fun k => w.heap.size ≤ k ∧ k < w'.heap.size) (.list cat) (.agg #[.bool b, .string s, .slice a n c]) w' ∧ Below w.heap.size w w' := by
  refine (decode_c [200, 131, 99, 97, 116, 131, 100, 111, 103] w).mono ?_
  rintro e w' ⟨hb, h⟩
  rw [if_neg (by decide), dec_cat] at h
  obtain ⟨x, v, hx, he, hv⟩ := h
  cases x with
  | text s => cases hx
  | list i =>
    have : i = cat := by injection hx with h _; exact h.symm
    subst this
    obtain ⟨b, s, a, n, c, rfl⟩ := hv.form
    exact ⟨b, s, a, n, c, he, hv, hb⟩
theorem dec2_c (w : World) : Calls Tryz.prog 52 #[.string ⟨#[129, 5]⟩] w fun e w' => e = .returned (.tuple #[.agg #[.bool false, .string ⟨#[]⟩, .slice none 0 0], .int .i64 2]) ∧ Below w.heap.size w w' := by
  refine (decode_c [129, 5] w).mono ?_
  rintro e w' ⟨hb, h⟩
  rw [if_neg (by decide), dec_five] at h
  exact ⟨h, hb⟩
theorem num1_c (w : World) : Calls Tryz.prog 38 #[.int .u64 1024] w fun e w' => e = .returned (.agg #[.bool false, .string (str [4, 0]), .slice none 0 0]) ∧ Below w.heap.size w w' := by
  have h := number_c 1024 (by decide) w
  rw [num_1024] at h
  exact h
theorem small1_c (w : World) : Calls Tryz.prog 110 #[.agg #[.bool false, .string (str [4, 0]), .slice none 0 0]] w fun e w' => e = .returned (.tuple #[.int .u64 1024, .bool true]) ∧ Below w.heap.size w w' :=
  small_ok_c [4, 0] _ (by decide) (by decide) w
theorem textA_c (s : ByteArray) (w : World) : Calls Tryz.prog 42 #[.string s] w fun e w' => e = .returned (.agg #[.bool false, .string s, .slice none 0 0]) ∧ Below w.heap.size w w' := text_c s w
end Go.Proofs.YtceagpnonkmfdaaGreat
end
section
namespace Go.Proofs.YtceagpnonkmfdaaGreat
open Go.RowKit

theorem tk_spec {n : Nat} {s x r : List UInt8} (h : tk n s = some (x, r)) : s = x ++ r ∧ x.length = n := by
  unfold tk at h
  split at h
  · next hn =>
    injection h with h
    injection h with h1 h2
    subst h1 h2
    exact ⟨(List.take_append_drop n s).symm, by simp; omega⟩
  · cases h
theorem bodyP_spec {k a : Nat} {s x r : List UInt8} (h : bodyP a s = some (x, r)) : UInt8.ofNat (k + a) :: s = hd k x.length ++ x ++ r := by
  unfold bodyP at h
  split at h
  · next ha =>
    obtain ⟨h1, h2⟩ := tk_spec h
    rw [h2, hd, if_pos ha, h1]; rfl
  · next ha =>
    split at h
    · cases h
    · next n r0 h0 =>
      split at h
      · next hc =>
        obtain ⟨h1, h2⟩ := tk_spec h0
        obtain ⟨h3, h4⟩ := tk_spec h
        have hs := hc.1
        simp only [smallL, Bool.and_eq_true, decide_eq_true_eq, bne_iff_ne, ne_eq] at hs
        have hv := num_val n (fun b q e hb => hs.2 (by rw [e, hb]; rfl))
        rw [h4, hd, if_neg (by omega), hv, h2, h1, h3, show k + 55 + (a - 55) = k + a by omega]
        simp
      · cases h
theorem itemsP_enc {p : List UInt8 → Option (Fo × List UInt8)} (hp : ∀ s f r, p s = some (f, r) → s = f.enc ++ r) : ∀ (n : Nat) (s : List UInt8) (f : Fo), itemsP p n s = some f → f.enc = s := by
  intro n
  induction n with
  | zero =>
    intro s f h
    cases s with
    | nil => simp only [itemsP] at h; injection h with h; subst h; rfl
    | cons b s => simp only [itemsP] at h; cases h
  | succ n ih =>
    intro s f h
    cases s with
    | nil => simp only [itemsP] at h; injection h with h; subst h; rfl
    | cons b s =>
      simp only [itemsP] at h
      split at h
      · cases h
      · next g r hg =>
        split at h
        · cases h
        · next g2 hg2 =>
          injection h with h
          subst h
          rw [Fo.enc_app, ih _ _ hg2, ← hp _ _ _ hg]
theorem itemP_enc : ∀ (d : Nat) (s : List UInt8) (f : Fo) (r : List UInt8), itemP d s = some (f, r) → s = f.enc ++ r := by
  intro d
  induction d with
  | zero => intro s f r h; cases h
  | succ d ih =>
    intro s f r h
    change itemS (itemP d) s = _ at h
    cases s with
    | nil => cases h
    | cons b s =>
      simp only [itemS] at h
      split at h
      · next hb =>
        injection h with h
        injection h with h1 h2
        subst h1 h2
        simp [Fo.enc, encT, hdT, bareL, hb]
      · next hb =>
        split at h
        · next hb2 =>
          cases hbd : bodyP (b.toNat - 128) s with
          | none => rw [hbd] at h; simp [textS] at h
          | some q =>
            obtain ⟨x, r'⟩ := q
            rw [hbd] at h
            simp only [textS] at h
            split at h
            · cases h
            · next hx =>
              obtain ⟨h1, h2⟩ := Prod.mk.inj (Option.some.inj h)
              subst h1 h2
              have := bodyP_spec (k := 128) hbd
              rw [show 128 + (b.toNat - 128) = b.toNat by omega, UInt8.ofNat_toNat] at this
              rw [this]
              simp [Fo.enc, encT, hdT, hx]
        · next hb2 =>
          cases hbd : bodyP (b.toNat - 192) s with
          | none => rw [hbd] at h; simp [listS] at h
          | some q =>
            obtain ⟨x, r'⟩ := q
            rw [hbd] at h
            simp only [listS] at h
            split at h
            · cases h
            · next g hg =>
              obtain ⟨h1, h2⟩ := Prod.mk.inj (Option.some.inj h)
              subst h1 h2
              have := bodyP_spec (k := 192) hbd
              rw [show 192 + (b.toNat - 192) = b.toNat by omega, UInt8.ofNat_toNat] at this
              have hg' := itemsP_enc ih _ _ _ hg
              rw [this]
              simp [Fo.enc, hg']
theorem decP_enc {s : List UInt8} {f : Fo} (h : decP s = some f) : f.enc = s := by
  unfold decP at h
  split at h
  · next g hg =>
    injection h with h
    subst h
    have := itemP_enc _ _ _ _ hg
    rw [this]; simp
  · cases h
theorem hd_pos (k n : Nat) : 0 < (hd k n).length := by unfold hd; split <;> simp
theorem encT_pos (s : List UInt8) : 0 < (encT s).length := by
  unfold encT hdT
  cases s with
  | nil => have := hd_pos 128 0; simp [bareL]; exact this
  | cons b s => simp; omega
theorem Fo.evs_len (f : Fo) : f.evs.length ≤ 2 * f.enc.length := by
  induction f with
  | nil => simp [Fo.evs]
  | text s r ih => have := encT_pos s; simp [Fo.evs, Fo.enc]; omega
  | list i r ih1 ih2 => have := hd_pos 192 i.enc.length; simp [Fo.evs, Fo.enc]; omega
theorem It.evs_len (x : It) : x.evs.length ≤ 2 * x.enc.length := by
  cases x with
  | text s => have := encT_pos s; simp [It.evs, It.enc]; omega
  | list i => have := hd_pos 192 i.enc.length; have := i.evs_len; simp [It.evs, It.enc]; omega
theorem It.enc_fo' (x : It) : (x.fo .nil).enc = x.enc := by cases x <;> simp [It.fo, It.enc, Fo.enc]
theorem str_eq (a b : List UInt8) : ((str a).toList == (str b).toList) = (a == b) := by
  rw [ByteArray.toList_eq, ByteArray.toList_eq]; simp [str]
end Go.Proofs.YtceagpnonkmfdaaGreat
end
section
namespace Go.Proofs.YtceagpnonkmfdaaGreat
open Go.RowKit

theorem tk_app (x r : List UInt8) : tk x.length (x ++ r) = some (x, r) := by
  unfold tk
  rw [if_pos (by simp)]
  simp
theorem bodyP_hd (k : Nat) (hk : k + 63 < 256) (x r : List UInt8) (hx : x.length < M64) : ∃ b q, hd k x.length = b :: q ∧ k ≤ b.toNat ∧ b.toNat < k + 64 ∧ bodyP (b.toNat - k) (q ++ (x ++ r)) = some (x, r) := by
  by_cases h : x.length ≤ 55
  · refine ⟨UInt8.ofNat (k + x.length), [], by rw [hd, if_pos h], ?_⟩
    rw [b8 (by omega)]
    refine ⟨by omega, by omega, ?_⟩
    rw [show k + x.length - k = x.length by omega, bodyP, if_pos h]
    exact tk_app x r
  · have h8 := num_length_le (n := x.length) 8 (by unfold M64 at hx; exact hx)
    have h0 := num_length_pos (n := x.length) (by omega)
    refine ⟨UInt8.ofNat (k + 55 + (num x.length).length), num x.length, by rw [hd, if_neg h], ?_⟩
    rw [b8 (by omega)]
    refine ⟨by omega, by omega, ?_⟩
    rw [show k + 55 + (num x.length).length - k = 55 + (num x.length).length by omega, bodyP, if_neg (by omega), show 55 + (num x.length).length - 55 = (num x.length).length by omega, tk_app]
    have hs : smallL (num x.length) = true := by
      unfold smallL
      rw [Bool.and_eq_true]
      refine ⟨by simpa using h8, ?_⟩
      rw [bne_iff_ne]
      intro e
      cases hn : num x.length with
      | nil => rw [hn] at e; cases e
      | cons b q => rw [hn] at e; exact num_head b q hn (by simpa using e)
    simp only [hs, val_num, true_and]
    rw [if_pos (by omega)]
    exact tk_app x r
def Fo.dep : Fo → Nat
  | .nil => 0
  | .text _ r => max 1 r.dep
  | .list i r => max (i.dep + 1) r.dep
def It.dep : It → Nat
  | .text _ => 1
  | .list i => i.dep + 1
theorem It.dep_pos (x : It) : 1 ≤ x.dep := by cases x <;> simp [It.dep]
theorem itemS_text (p : List UInt8 → Option (Fo × List UInt8)) (s r : List UInt8) (hs : (encT s).length < M64) : itemS p (encT s ++ r) = some (.text s .nil, r) := by
  by_cases hb : bareL s = true
  · obtain ⟨b, rfl, hb1⟩ : ∃ b, s = [b] ∧ b.toNat < 128 := by
      rcases s with _ | ⟨b, _ | ⟨c, r⟩⟩
      · cases hb
      · exact ⟨b, rfl, by simpa [bareL] using hb⟩
      · cases hb
    simp [encT, hdT, hb, itemS, hb1]
  · have hl : s.length < M64 := by unfold encT at hs; rw [List.length_append] at hs; omega
    obtain ⟨b, q, h1, h2, h3, h4⟩ := bodyP_hd 128 (by omega) s r hl
    have e : encT s ++ r = b :: (q ++ (s ++ r)) := by simp [encT, hdT, hb, h1]
    rw [e]
    simp only [itemS]
    rw [if_neg (by omega), if_pos (by omega), h4]
    simp [textS, hb]
theorem itemS_list (p : List UInt8 → Option (Fo × List UInt8)) (i : Fo) (r : List UInt8) (hs : i.enc.length < M64) : itemS p ((It.list i).enc ++ r) = match itemsP p i.enc.length i.enc with | none => none | some f => some (.list f .nil, r) := by
  obtain ⟨b, q, h1, h2, h3, h4⟩ := bodyP_hd 192 (by omega) i.enc r hs
  have e : (It.list i).enc ++ r = b :: (q ++ (i.enc ++ r)) := by simp [It.enc, h1]
  rw [e]
  simp only [itemS]
  rw [if_neg (by omega), if_neg (by omega), h4]
  rfl
theorem enc_cons (x : It) : ∃ b q, x.enc = b :: q := by
  cases x with
  | text s => have := encT_pos s; obtain ⟨b, q, h⟩ := List.exists_cons_of_length_pos this; exact ⟨b, q, h⟩
  | list i => have := hd_pos 192 i.enc.length; obtain ⟨b, q, h⟩ := List.exists_cons_of_length_pos this; exact ⟨b, q ++ i.enc, by simp [It.enc, h]⟩
/-- Items one behind the other, if p takes each of them that is not too deep. -/
theorem itemsP_step {p : List UInt8 → Option (Fo × List UInt8)} {d : Nat} (x : It) (r : Fo) (hp : ∀ r, p (x.enc ++ r) = if x.dep ≤ d then some (x.fo .nil, r) else none) (ih : ∀ n, r.enc.length ≤ n → itemsP p n r.enc = if r.dep ≤ d then some r else none) (n : Nat) (hn : (x.enc ++ r.enc).length ≤ n) :
    itemsP p n (x.enc ++ r.enc) = if max x.dep r.dep ≤ d then some (x.fo r) else none := by
  obtain ⟨b, q, hx⟩ := enc_cons x
  have h1 := hp r.enc
  rw [hx] at h1 hn ⊢
  rcases n with _ | n
  · simp at hn
  · rw [List.cons_append] at h1 ⊢
    simp only [itemsP]
    rw [h1]
    by_cases hd : x.dep ≤ d
    · rw [if_pos hd]
      simp only
      rw [ih n (by simp at hn; omega)]
      by_cases hr : r.dep ≤ d
      · rw [if_pos hr, if_pos (by omega)]
        simp only
        rw [It.fo_app]
      · rw [if_neg hr, if_neg (by omega)]
    · rw [if_neg hd, if_neg (by omega)]
theorem itemsP_fo {d : Nat} (hd : ∀ (x : It) (r : List UInt8), x.enc.length < M64 → itemP d (x.enc ++ r) = if x.dep ≤ d then some (x.fo .nil, r) else none) : ∀ (f : Fo) (n : Nat), f.enc.length < M64 → f.enc.length ≤ n → itemsP (itemP d) n f.enc = if f.dep ≤ d then some f else none := by
  intro f
  induction f with
  | nil => intro n _ _; rw [if_pos (by simp [Fo.dep])]; cases n <;> rfl
  | text s r ih =>
    intro n hm hn
    have e : (Fo.text s r).enc = (It.text s).enc ++ r.enc := rfl
    rw [e] at hm hn ⊢
    rw [List.length_append] at hm
    exact itemsP_step (.text s) r (fun q => hd _ q (by omega)) (fun n hn => ih n (by omega) hn) n hn
  | list i r _ ih =>
    intro n hm hn
    have e : (Fo.list i r).enc = (It.list i).enc ++ r.enc := rfl
    rw [e] at hm hn ⊢
    rw [List.length_append] at hm
    exact itemsP_step (.list i) r (fun q => hd _ q (by omega)) (fun n hn => ih n (by omega) hn) n hn
theorem itemP_it : ∀ (d : Nat) (x : It) (r : List UInt8), x.enc.length < M64 → itemP d (x.enc ++ r) = if x.dep ≤ d then some (x.fo .nil, r) else none := by
  intro d
  induction d with
  | zero => intro x r _; rw [if_neg (by have := x.dep_pos; omega)]; rfl
  | succ d ih =>
    intro x r hx
    change itemS (itemP d) (x.enc ++ r) = _
    cases x with
    | text s => rw [if_pos (by simp [It.dep])]; exact itemS_text _ s r hx
    | list i =>
      have hi : i.enc.length < M64 := by simp only [It.enc, List.length_append] at hx; omega
      rw [itemS_list _ i r hi, itemsP_fo ih i _ hi (Nat.le_refl _)]
      by_cases h : i.dep ≤ d
      · rw [if_pos h, if_pos (by simp only [It.dep]; omega)]; rfl
      · rw [if_neg h, if_neg (by simp only [It.dep]; omega)]
theorem decP_it (x : It) (hx : x.enc.length < M64) : decP x.enc = if x.dep ≤ 65 then some (x.fo .nil) else none := by
  have h := itemP_it 65 x [] hx
  rw [List.append_nil] at h
  unfold decP
  rw [h]
  by_cases hd : x.dep ≤ 65
  · rw [if_pos hd, if_pos hd]
  · rw [if_neg hd, if_neg hd]
theorem decP_more (x : It) (hx : x.enc.length < M64) (b : UInt8) (r : List UInt8) : decP (x.enc ++ b :: r) = none := by
  have h := itemP_it 65 x (b :: r) hx
  unfold decP
  rw [h]
  by_cases hd : x.dep ≤ 65
  · rw [if_pos hd]
  · rw [if_neg hd]
end Go.Proofs.YtceagpnonkmfdaaGreat
end
section
namespace Go.Proofs.YtceagpnonkmfdaaGreat
open Go.RowKit

theorem itemP_one : ∀ (d : Nat) (s : List UInt8) (f : Fo) (r : List UInt8), itemP d s = some (f, r) → ∃ x : It, f = x.fo .nil := by
  intro d s f r h
  cases d with
  | zero => cases h
  | succ d =>
    change itemS (itemP d) s = _ at h
    cases s with
    | nil => cases h
    | cons b s =>
      simp only [itemS] at h
      split at h
      · obtain ⟨h1, _⟩ := Prod.mk.inj (Option.some.inj h)
        exact ⟨.text [b], h1.symm⟩
      · split at h
        · cases hbd : bodyP (b.toNat - 128) s with
          | none => rw [hbd] at h; simp [textS] at h
          | some q =>
            obtain ⟨x, r'⟩ := q
            rw [hbd] at h
            simp only [textS] at h
            split at h
            · cases h
            · obtain ⟨h1, _⟩ := Prod.mk.inj (Option.some.inj h)
              exact ⟨.text x, h1.symm⟩
        · cases hbd : bodyP (b.toNat - 192) s with
          | none => rw [hbd] at h; simp [listS] at h
          | some q =>
            obtain ⟨x, r'⟩ := q
            rw [hbd] at h
            simp only [listS] at h
            split at h
            · cases h
            · next g _ =>
              obtain ⟨h1, _⟩ := Prod.mk.inj (Option.some.inj h)
              exact ⟨.list g, h1.symm⟩
theorem decP_cut (x : It) (hx : x.enc.length < M64) (n : Nat) (hn : n < x.enc.length) : decP (x.enc.take n) = none := by
  cases hd : decP (x.enc.take n) with
  | none => rfl
  | some f =>
    exfalso
    have he := decP_enc hd
    unfold decP at hd
    split at hd
    · next g hg =>
      injection hd with hd
      subst hd
      obtain ⟨y, rfl⟩ := itemP_one _ _ _ _ hg
      rw [It.enc_fo'] at he
      have h1 : x.enc ++ [] = y.enc ++ x.enc.drop n := by rw [he, List.append_nil, List.take_append_drop]
      have h2 := itemP_it (x.dep + y.dep) x [] hx
      have h3 := itemP_it (x.dep + y.dep) y (x.enc.drop n) (by rw [he, List.length_take]; omega)
      rw [if_pos (by omega)] at h2 h3
      rw [h1, h3] at h2
      obtain ⟨_, h4⟩ := Prod.mk.inj (Option.some.inj h2)
      have := congrArg List.length h4
      simp at this
      omega
    · cases hd
/-- The items of parts: so many of them, each out of what is left. -/
def madeL (p : List (Nat × List UInt8) → It × Nat) : Nat → List (Nat × List UInt8) → Fo × Nat
  | 0, _ => (.nil, 0)
  | _ + 1, [] => (.nil, 0)
  | c + 1, l => (((p l).1).fo (madeL p c (l.drop (p l).2)).1, (p l).2 + (madeL p c (l.drop (p l).2)).2)
/-- The item of parts, that may stand in so many lists more; how many of them it took. -/
def madeP : Nat → List (Nat × List UInt8) → It × Nat
  | _, [] => (.text [], 0)
  | 0, (_, s) :: _ => (.text (s.take 300), 1)
  | d + 1, (k, s) :: t => if k % 2 = 0 then (.text (s.take 300), 1) else (.list (madeL (madeP d) (k / 2 % 5) t).1, 1 + (madeL (madeP d) (k / 2 % 5) t).2)
theorem madeL_dep {p : List (Nat × List UInt8) → It × Nat} {d : Nat} (hp : ∀ l, (p l).1.dep ≤ d) : ∀ (c : Nat) (l : List (Nat × List UInt8)), (madeL p c l).1.dep ≤ d := by
  intro c
  induction c with
  | zero => intro l; simp [madeL, Fo.dep]
  | succ c ih =>
    intro l
    cases l with
    | nil => simp [madeL, Fo.dep]
    | cons b l =>
      have h1 := hp (b :: l)
      have h2 := ih ((b :: l).drop (p (b :: l)).2)
      have e : (madeL p (c + 1) (b :: l)).1 = (p (b :: l)).1.fo (madeL p c ((b :: l).drop (p (b :: l)).2)).1 := rfl
      rw [e]
      generalize (madeL p c ((b :: l).drop (p (b :: l)).2)).1 = r at h2 ⊢
      generalize (p (b :: l)).1 = x at h1 ⊢
      cases x <;> simp only [It.fo, Fo.dep, It.dep] at h1 ⊢ <;> omega
theorem madeP_dep : ∀ (d : Nat) (l : List (Nat × List UInt8)), (madeP d l).1.dep ≤ d + 1 := by
  intro d
  induction d with
  | zero => intro l; cases l <;> simp [madeP, It.dep]
  | succ d ih =>
    intro l
    cases l with
    | nil => simp [madeP, It.dep]
    | cons b l =>
      obtain ⟨k, s⟩ := b
      simp only [madeP]
      split
      · simp [It.dep]
      · have := madeL_dep ih (k / 2 % 5) l
        simp only [It.dep]; omega
end Go.Proofs.YtceagpnonkmfdaaGreat
end
section
namespace Go.Proofs.YtceagpnonkmfdaaGreat
open Go.RowKit

theorem encT_le {s : List UInt8} (h : s.length ≤ 300) : (encT s).length ≤ 303 := by
  have h1 := hd_len 128 s.length
  have h2 := num_length_le (n := s.length) 2 (by simp; omega)
  unfold encT hdT
  rw [List.length_append]
  split
  · simp; omega
  · omega
theorem fo_enc (x : It) (r : Fo) : (x.fo r).enc = x.enc ++ r.enc := by cases x <;> rfl
/-- What parts make: so many of them, and no longer. -/
def MadeOk (p : List (Nat × List UInt8) → It × Nat) : Prop := ∀ l, l.length ≤ 60 → (l ≠ [] → 1 ≤ (p l).2 ∧ (p l).1.enc.length ≤ 310 * (p l).2) ∧ (p l).2 ≤ l.length
theorem madeL_le {p : List (Nat × List UInt8) → It × Nat} (hp : MadeOk p) : ∀ (c : Nat) (l : List (Nat × List UInt8)), l.length ≤ 60 → (madeL p c l).1.enc.length ≤ 310 * (madeL p c l).2 ∧ (madeL p c l).2 ≤ l.length := by
  intro c
  induction c with
  | zero => intro l _; simp [madeL, Fo.enc]
  | succ c ih =>
    intro l hl
    cases l with
    | nil => simp [madeL, Fo.enc]
    | cons b l =>
      obtain ⟨h1, h2⟩ := hp (b :: l) hl
      obtain ⟨h3, h4⟩ := h1 (by simp)
      obtain ⟨h5, h6⟩ := ih ((b :: l).drop (p (b :: l)).2) (by rw [List.length_drop]; omega)
      rw [List.length_drop] at h6
      have e1 : (madeL p (c + 1) (b :: l)).1 = (p (b :: l)).1.fo (madeL p c ((b :: l).drop (p (b :: l)).2)).1 := rfl
      have e2 : (madeL p (c + 1) (b :: l)).2 = (p (b :: l)).2 + (madeL p c ((b :: l).drop (p (b :: l)).2)).2 := rfl
      rw [e1, e2, fo_enc, List.length_append]
      omega
theorem madeP_le : ∀ d, MadeOk (madeP d) := by
  intro d
  induction d with
  | zero =>
    intro l hl
    cases l with
    | nil => exact ⟨fun h => absurd rfl h, Nat.le_refl _⟩
    | cons b l =>
      have h := encT_le (s := b.2.take 300) (by rw [List.length_take]; omega)
      exact ⟨fun _ => ⟨Nat.le_refl _, Nat.le_trans h (by show 303 ≤ 310 * 1; omega)⟩, by show 1 ≤ _; simp⟩
  | succ d ih =>
    intro l hl
    cases l with
    | nil => exact ⟨fun h => absurd rfl h, Nat.le_refl _⟩
    | cons b l =>
      obtain ⟨k, s⟩ := b
      by_cases hk : k % 2 = 0
      · have e : madeP (d + 1) ((k, s) :: l) = (.text (s.take 300), 1) := by simp [madeP, hk]
        have h := encT_le (s := s.take 300) (by rw [List.length_take]; omega)
        rw [e]
        exact ⟨fun _ => ⟨Nat.le_refl _, Nat.le_trans h (by show 303 ≤ 310 * 1; omega)⟩, by show 1 ≤ _; simp⟩
      · have e : madeP (d + 1) ((k, s) :: l) = (.list (madeL (madeP d) (k / 2 % 5) l).1, 1 + (madeL (madeP d) (k / 2 % 5) l).2) := by simp [madeP, hk]
        obtain ⟨h1, h2⟩ := madeL_le ih (k / 2 % 5) l (by simp at hl; omega)
        rw [e]
        have h3 := hd_len 192 (madeL (madeP d) (k / 2 % 5) l).1.enc.length
        have h4 := num_length_le (n := (madeL (madeP d) (k / 2 % 5) l).1.enc.length) 2 (by simp at hl ⊢; omega)
        refine ⟨fun _ => ⟨by show 1 ≤ 1 + _; omega, ?_⟩, by show 1 + _ ≤ _; simp; omega⟩
        show (hd 192 _ ++ _).length ≤ 310 * (1 + _)
        rw [List.length_append]
        omega
theorem madeP_enc (d : Nat) (l : List (Nat × List UInt8)) (hl : l.length ≤ 60) : (madeP d l).1.enc.length ≤ 18600 := by
  obtain ⟨h1, h2⟩ := madeP_le d l hl
  cases l with
  | nil =>
    have e : madeP d [] = (.text [], 0) := by cases d <;> rfl
    rw [e]; decide
  | cons b l => have := (h1 (by simp)).2; omega
end Go.Proofs.YtceagpnonkmfdaaGreat
end
section
namespace Go.Proofs.YtceagpnonkmfdaaGreat
open Go.RowKit

/-- Parts lie from cell o of block g on. -/
def PAt (W : World) (g : Nat) : Nat → List (Nat × List UInt8) → Prop
  | _, [] => True
  | o, (k, s) :: t => (k < 256 ∧ s.length ≤ 9223372036854775807 ∧ W.cell? ⟨g, o, none⟩ = some (.int .u8 (k : Nat)) ∧ W.cell? ⟨g, o + 1, none⟩ = some (.string (str s))) ∧ PAt W g (o + 2) t
theorem PAt.kept {W W' : World} {g : Nat} (hb : W'.heap[g]? = W.heap[g]?) : ∀ (l : List (Nat × List UInt8)) (o : Nat), PAt W g o l → PAt W' g o l := by
  intro l
  induction l with
  | nil => intro o _; trivial
  | cons b l ih =>
    obtain ⟨k, s⟩ := b
    intro o ⟨⟨h1, h2, h3, h4⟩, h5⟩
    exact ⟨⟨h1, h2, (World.cell?_of_block hb).trans h3, (World.cell?_of_block hb).trans h4⟩, ih _ h5⟩
theorem PAt.drop {W : World} {g : Nat} : ∀ (n : Nat) (l : List (Nat × List UInt8)) (o : Nat), PAt W g o l → PAt W g (o + 2 * min n l.length) (l.drop n) := by
  intro n
  induction n with
  | zero => intro l o h; simpa using h
  | succ n ih =>
    intro l o h
    cases l with
    | nil => trivial
    | cons b l =>
      obtain ⟨k, s⟩ := b
      have := ih l (o + 2) h.2
      rw [show o + 2 * min (n + 1) ((k, s) :: l).length = o + 2 + 2 * min n l.length by simp; omega]
      exact this
/-- What a call of made hands back. -/
def MadeR (q : It × Nat) (w : World) (e : Ending) (w' : World) : Prop :=
  ∃ v, e = .returned (.tuple #[v, .int .i64 (q.2 : Nat)]) ∧ ItV (fun k => w.heap.size ≤ k ∧ k < w'.heap.size) q.1 v w' ∧ Below w.heap.size w w'
end Go.Proofs.YtceagpnonkmfdaaGreat
end
section
namespace Go.Proofs.YtceagpnonkmfdaaGreat
open Go.RowKit

theorem madeL_end {p : List (Nat × List UInt8) → It × Nat} {C j m : Nat} {t : List (Nat × List UInt8)} {f : Fo} (h : madeL p C t = (f.app (madeL p (C - j) (t.drop m)).1, m + (madeL p (C - j) (t.drop m)).2)) (he : C ≤ j ∨ t.length ≤ m) : madeL p C t = (f, m) := by
  have e : madeL p (C - j) (t.drop m) = (.nil, 0) := by
    rcases he with he | he
    · rw [show C - j = 0 by omega]; rfl
    · rw [List.drop_eq_nil_iff.2 he]
      cases C - j <;> rfl
  rw [h, e]
  simp [Fo.app_nil]
theorem fo_app (x : It) (r : Fo) : x.fo r = (x.fo .nil).app r := by cases x <;> rfl
theorem madeL_step {p : List (Nat × List UInt8) → It × Nat} {C j m : Nat} {t : List (Nat × List UInt8)} {f : Fo} (h : madeL p C t = (f.app (madeL p (C - j) (t.drop m)).1, m + (madeL p (C - j) (t.drop m)).2)) (h1 : j < C) (h2 : m < t.length) :
    madeL p C t = ((f.app ((p (t.drop m)).1.fo .nil)).app (madeL p (C - (j + 1)) (t.drop (m + (p (t.drop m)).2))).1, m + (p (t.drop m)).2 + (madeL p (C - (j + 1)) (t.drop (m + (p (t.drop m)).2))).2) := by
  obtain ⟨b, r, hr⟩ : ∃ b r, t.drop m = b :: r := by
    cases hd : t.drop m with
    | nil => rw [List.drop_eq_nil_iff] at hd; omega
    | cons b r => exact ⟨b, r, rfl⟩
  have e : madeL p (C - j) (t.drop m) = ((p (t.drop m)).1.fo (madeL p (C - (j + 1)) ((t.drop m).drop (p (t.drop m)).2)).1, (p (t.drop m)).2 + (madeL p (C - (j + 1)) ((t.drop m).drop (p (t.drop m)).2)).2) := by
    rw [show C - j = C - (j + 1) + 1 by omega, hr]
    rfl
  rw [h, e, List.drop_drop]
  simp only [Prod.mk.injEq]
  exact ⟨by rw [fo_app, Fo.app_assoc], by omega⟩

/-- What is known at the head of each round. -/
structure MadeS (p : List (Nat × List UInt8) → It × Nat) (C : Nat) (t : List (Nat × List UInt8)) (w : World) (j m : Nat) (W : World) : Prop where
  below : Below w.heap.size w W
  res : W.heap[w.heap.size]? = some (.cells #[.bool false, .string ⟨#[]⟩, .slice none 0 0] 108 (0, 0))
  it : ∃ (f : Fo) (v : Value), W.heap[w.heap.size + 1]? = some (.cells #[.bool true, .string ⟨#[]⟩, v] 108 (0, 0)) ∧ Own (w.heap.size + 2) f v W ∧ f.len ≤ j ∧
    madeL p C t = (f.app (madeL p (C - j) (t.drop m)).1, m + (madeL p (C - j) (t.drop m)).2)
end Go.Proofs.YtceagpnonkmfdaaGreat
end
section
namespace Go.Proofs.YtceagpnonkmfdaaGreat
open Go.RowKit

theorem encT_show (s : List UInt8) : 2 * s.length + 3 ≤ 5 * (encT s).length := by
  have h := encT_len s
  have h1 := encT_pos s
  by_cases h2 : s.length ≤ 1
  · omega
  · have h3 : 0 < (hdT s).length := by
      unfold hdT
      rw [if_neg]
      · exact hd_pos _ _
      · unfold bareL
        rcases s with _ | ⟨a, _ | ⟨b, s⟩⟩
        · simp at h2
        · simp at h2
        · simp
    omega
theorem Fo.sho_len (f : Fo) : ∀ g : List UInt8, (f.sho g).length ≤ g.length + 5 * f.enc.length := by
  induction f with
  | nil => intro g; simp [Fo.sho]
  | text s r ih =>
    intro g
    have h1 := ih [32]
    have h2 := encT_show s
    simp only [Fo.sho, Fo.enc, List.length_append, hexL_len, List.length_singleton] at h1 ⊢
    omega
  | list i r ih1 ih2 =>
    intro g
    have h1 := ih1 []
    have h2 := ih2 [32]
    have h3 := hd_pos 192 i.enc.length
    simp only [Fo.sho, Fo.enc, List.length_append, List.length_singleton, List.length_nil] at h1 h2 ⊢
    omega
theorem It.sho_len (x : It) : x.sho.length ≤ 5 * x.enc.length := by
  have h := (x.fo .nil).sho_len []
  rw [It.enc_fo'] at h
  cases x <;> simpa [It.sho, It.fo, Fo.sho] using h
theorem It.enc_pos (x : It) : 0 < x.enc.length := by
  cases x with
  | text s => exact encT_pos s
  | list i =>
    have := hd_pos 192 i.enc.length
    simp [It.enc]; omega

/-- What is known amid a law: blocks of items, and items, wherever they lie. -/
structure Kn (w : World) (L : List (Nat × Array Value)) (xs : List (It × Value)) (W : World) : Prop where
  below : Below w.heap.size w W
  blk : ∀ p ∈ L, W.heap[p.1]? = some (.cells p.2 108 (0, 0))
  its : ∀ q ∈ xs, ItV (fun k => k < W.heap.size) q.1 q.2 W
theorem Kn.call {w W W' : World} {L : List (Nat × Array Value)} {xs : List (It × Value)} (h : Kn w L xs W) (hb : Below W.heap.size W W') : Kn w L xs W' :=
  ⟨h.below.trans (hb.mono h.below.size), fun p hp => (hb.block _ (lt_of (h.blk p hp))).trans (h.blk p hp),
    fun q hq => ((h.its q hq).kept (W' := W') (fun k hk => hb.block k hk)).mono (fun _ hk => Nat.lt_of_lt_of_le hk hb.size)⟩
theorem Kn.new {w W W' : World} {L : List (Nat × Array Value)} {xs : List (It × Value)} (h : Kn w L xs W) (hb : Below W.heap.size W W') {x : It} {v : Value} {S : Nat → Prop} (hv : ItV S x v W') (hS : ∀ k, S k → k < W'.heap.size) : Kn w L ((x, v) :: xs) W' :=
  ⟨(h.call hb).below, (h.call hb).blk, fun q hq => by
    rcases List.mem_cons.1 hq with rfl | hq
    · exact hv.mono hS
    · exact (h.call hb).its q hq⟩
theorem Kn.box {w W : World} {L : List (Nat × Array Value)} {xs : List (It × Value)} (h : Kn w L xs W) (cs : Array Value) : Kn w ((W.heap.size, cs) :: L) xs (W.alloc (.cells cs 108)) := by
  have hc := h.call (bel_al W (.cells cs 108))
  refine ⟨hc.below, fun p hp => ?_, hc.its⟩
  rcases List.mem_cons.1 hp with rfl | hp
  · exact heap_alloc_new _ _
  · exact hc.blk p hp
theorem Kn.drew {w W : World} {L : List (Nat × Array Value)} {xs : List (It × Value)} (h : Kn w L xs W) : Kn w L xs W.drew := h.call (Below.refl _ _).drew
theorem Kn.it {w W : World} {L : List (Nat × Array Value)} {xs : List (It × Value)} (h : Kn w L xs W) {x : It} {v : Value} (hm : (x, v) ∈ xs) : ItV (fun k => k < W.heap.size) x v W := h.its _ hm
theorem Kn.start (w : World) : Kn w [] [] w := ⟨Below.refl _ _, by simp, by simp⟩
theorem Kn.cells {w W : World} {L : List (Nat × Array Value)} {xs : List (It × Value)} (h : Kn w L xs W) {b : Nat} {v0 v1 v2 : Value} (hm : (b, #[v0, v1, v2]) ∈ L) :
    W.cell? ⟨b, 0, none⟩ = some v0 ∧ W.cell? ⟨b, 1, none⟩ = some v1 ∧ W.cell? ⟨b, 2, none⟩ = some v2 := (cells3 (h.blk _ hm)).1

theorem PAt.take {W : World} {g : Nat} : ∀ (n : Nat) (l : List (Nat × List UInt8)) (o : Nat), PAt W g o l → PAt W g o (l.take n) := by
  intro n
  induction n with
  | zero => intro l o _; trivial
  | succ n ih =>
    intro l o h
    cases l with
    | nil => trivial
    | cons b l => exact ⟨h.1, ih l _ h.2⟩
/-- A slice of parts that a law is handed. -/
def Parts (W : World) (a : Option Addr) (c : Nat) (l : List (Nat × List UInt8)) : Prop :=
  l.length ≤ c ∧ (l = [] ∨ ∃ g o, a = some ⟨g, o, none⟩ ∧ g < W.heap.size ∧ PAt W g o l)
theorem Parts.later {W W' : World} {a : Option Addr} {c : Nat} {l : List (Nat × List UInt8)} (h : Parts W a c l) (hb : Below W.heap.size W W') : Parts W' a c l := by
  obtain ⟨h1, h2⟩ := h
  refine ⟨h1, ?_⟩
  rcases h2 with h2 | ⟨g, o, e, hg, hp⟩
  · exact Or.inl h2
  · exact Or.inr ⟨g, o, e, Nat.lt_of_lt_of_le hg hb.size, hp.kept (hb.block g hg)⟩
end Go.Proofs.YtceagpnonkmfdaaGreat
end
section
namespace Go.Proofs.YtceagpnonkmfdaaGreat
open Go.RowKit

/-- The 32 bytes of a number, the highest first. -/
def wordL (x : Nat) : List UInt8 := tail256 x 32
theorem bytesOf_str (x : Nat) : bytesOf x = str (wordL x) := by
  have h := bytesOf_list x
  rw [ByteArray.toList_eq] at h
  unfold wordL
  rw [← h, str_list]
theorem wordL_len (x : Nat) : (wordL x).length = 32 := tail256_length x 32
theorem last_bytes (x k : Nat) (hk : k ≤ 32) : lastOf (bytesOf x) k = x % 256 ^ k := by
  induction k with
  | zero => simp [lastOf, Nat.mod_one]
  | succ k ih =>
    simp only [lastOf, ih (by omega), bytesOf_size]
    rw [byteAt_bytes _ _ (by omega), show 31 - (32 - 1 - k) = k by omega, Nat.mod_pow_succ, byteOf, Nat.mul_comm]
theorem last_all {x : Nat} (hx : x < W256) : lastOf (bytesOf x) (bytesOf x).size = x := by
  rw [bytesOf_size, last_bytes x 32 (Nat.le_refl _)]
  exact Nat.mod_eq_of_lt hx
/-- The number of a text's bytes. -/
def ofL (s : List UInt8) : Nat := lastOf (str s) (str s).size
theorem ofL_word {x : Nat} (hx : x < W256) : ofL (wordL x) = x := by
  unfold ofL
  rw [← bytesOf_str]
  exact last_all hx
theorem wordL_inj {x y : Nat} (hx : x < W256) (hy : y < W256) (h : wordL x = wordL y) : x = y := by
  rw [← ofL_word hx, ← ofL_word hy, h]
theorem num_inj {m n : Nat} (h : num m = num n) : m = n := by rw [← val_num m, ← val_num n, h]
/-- A word's parts. -/
def l0 (n : Nat) : Nat := n % M64
def l1 (n : Nat) : Nat := n / M64 % M64
def l2 (n : Nat) : Nat := n / M64 / M64 % M64
def l3 (n : Nat) : Nat := n / M64 / M64 / M64
theorem dig_of {n : Nat} (h : n < W256) : Dig n (l0 n) (l1 n) (l2 n) (l3 n) := Dig.of h
theorem dig_eq {n d0 d1 d2 d3 : Nat} (h : Dig n d0 d1 d2 d3) : d0 = l0 n ∧ d1 = l1 n ∧ d2 = l2 n ∧ d3 = l3 n := h.inj (dig_of h.lt)
theorem lim_zero : l0 0 = 0 ∧ l1 0 = 0 ∧ l2 0 = 0 ∧ l3 0 = 0 := by decide
theorem lim_nil {n : Nat} (h : n < W256) (h0 : l0 n = 0) (h1 : l1 n = 0) (h2 : l2 n = 0) (h3 : l3 n = 0) : n = 0 := by
  have := (dig_of h).eq
  rw [h0, h1, h2, h3] at this
  simpa using this

structure AskP where
  id : Nat
  addr : List UInt8
  slot : Nat
  kind : Int
structure AskP.Wf (a : AskP) : Prop where
  id : a.id < M64
  slot : a.slot < W256
  kind : -9223372036854775808 ≤ a.kind ∧ a.kind ≤ 9223372036854775807
def AskP.Ok (a : AskP) : Prop := a.addr.length = 20 ∧ (a.kind = 2 ∨ a.kind = 1 ∧ a.slot = 0)
instance (a : AskP) : Decidable a.Ok := inferInstanceAs (Decidable (_ ∧ _))
def AskP.fo (a : AskP) : Fo := .text (num a.id) (.text (num a.kind.toNat) (.text a.addr (if a.kind = 2 then .text (wordL a.slot) .nil else .nil)))
def AskP.it (a : AskP) : It := .list a.fo
def AskP.enc (a : AskP) : List UInt8 := a.it.enc
def AskP.zero : AskP := ⟨0, [], 0, 0⟩
def askV (a : AskP) : Value := .agg #[.int .u64 a.id, .string (str a.addr), .int .u64 (l3 a.slot : Nat), .int .u64 (l2 a.slot : Nat), .int .u64 (l1 a.slot : Nat), .int .u64 (l0 a.slot : Nat), .int .i64 a.kind]
structure ReplyP where
  id : Nat
  nonce : Nat
  bal : Nat
  code : List UInt8
  value : Nat
structure ReplyP.Wf (r : ReplyP) : Prop where
  id : r.id < M64
  nonce : r.nonce < M64
  bal : r.bal < W256
  value : r.value < W256
def ReplyP.Ok (kind : Int) (r : ReplyP) : Prop := r.code.length ≤ 24576 ∧ (kind = 1 ∧ r.value = 0 ∨ kind = 2 ∧ r.nonce = 0 ∧ r.bal = 0 ∧ r.code = [])
instance (kind : Int) (r : ReplyP) : Decidable (r.Ok kind) := inferInstanceAs (Decidable (_ ∧ _))
def ReplyP.fo (kind : Int) (r : ReplyP) : Fo := .text (num r.id) (if kind = 1 then .text (num r.nonce) (.text (wordL r.bal) (.text r.code .nil)) else .text (wordL r.value) .nil)
def ReplyP.it (kind : Int) (r : ReplyP) : It := .list (r.fo kind)
def ReplyP.body (kind : Int) (r : ReplyP) : List UInt8 := (r.it kind).enc
/-- Four bytes of a sum, the highest first. -/
def be4 (n : Nat) : List UInt8 := [UInt8.ofNat (n / 16777216), UInt8.ofNat (n / 65536), UInt8.ofNat (n / 256), UInt8.ofNat n]
def sum4 (s : List UInt8) : List UInt8 := be4 (sumN (str s))
def ReplyP.enc (kind : Int) (r : ReplyP) : List UInt8 := sum4 (r.body kind) ++ r.body kind
def ReplyP.zero : ReplyP := ⟨0, 0, 0, [], 0⟩
def replyV (r : ReplyP) : Value := .agg #[.int .u64 r.id, .int .u64 r.nonce, .int .u64 (l3 r.bal : Nat), .int .u64 (l2 r.bal : Nat), .int .u64 (l1 r.bal : Nat), .int .u64 (l0 r.bal : Nat), .string (str r.code), .int .u64 (l3 r.value : Nat), .int .u64 (l2 r.value : Nat), .int .u64 (l1 r.value : Nat), .int .u64 (l0 r.value : Nat)]

theorem num8 {n : Nat} (h : n < M64) : (num n).length ≤ 8 := num_length_le 8 (by unfold M64 at h; exact h)
theorem num_head0 (n : Nat) : (num n).head? ≠ some 0 := by
  cases h : num n with
  | nil => simp
  | cons b r => have := num_head b r h; simpa using this
theorem hd_le (k n : Nat) (hn : n < 65536) : (hd k n).length ≤ 3 := by
  have := hd_len k n
  have := num_length_le (n := n) 2 (by omega)
  omega
theorem encT_le3 (s : List UInt8) (hn : s.length < 65536) : (encT s).length ≤ s.length + 3 := by
  rw [encT_len]
  have : (hdT s).length ≤ 3 := by
    unfold hdT
    split
    · simp
    · exact hd_le _ _ hn
  omega
theorem AskP.fo_len {a : AskP} (h : a.Wf) (ho : a.Ok) : a.fo.enc.length ≤ 100 := by
  have h1 := encT_le3 (num a.id) (by have := num8 h.id; omega)
  have h2 := encT_le3 (num a.kind.toNat) (by have := num_length_le (n := a.kind.toNat) 8 (by have := ho.2; omega); omega)
  have h3 := encT_le3 a.addr (by have := ho.1; omega)
  have h4 := encT_le3 (wordL a.slot) (by rw [wordL_len]; omega)
  have h5 := num8 h.id
  have h6 := num_length_le (n := a.kind.toNat) 1 (by have := ho.2; omega)
  have h7 := ho.1
  have h8 := wordL_len a.slot
  unfold AskP.fo
  split <;> simp only [Fo.enc, List.length_append, List.length_nil] <;> omega
theorem It.list_len (f : Fo) (hf : f.enc.length < 65000) : (It.list f).enc.length ≤ f.enc.length + 3 := by
  have := hd_le 192 f.enc.length (by omega)
  simp only [It.enc, List.length_append]
  omega
theorem AskP.enc_len {a : AskP} (h : a.Wf) (ho : a.Ok) : a.enc.length ≤ 103 := by
  have h1 := AskP.fo_len h ho
  have h2 := It.list_len a.fo (by omega)
  unfold AskP.enc AskP.it
  omega
theorem AskP.dep (a : AskP) : a.it.dep ≤ 65 := by
  unfold AskP.it AskP.fo
  split <;> simp [It.dep, Fo.dep]
theorem ReplyP.fo_len {kind : Int} {r : ReplyP} (h : r.Wf) (ho : r.Ok kind) : (r.fo kind).enc.length ≤ 24700 := by
  have h1 := encT_le3 (num r.id) (by have := num8 h.id; omega)
  have h2 := encT_le3 (num r.nonce) (by have := num8 h.nonce; omega)
  have h3 := encT_le3 (wordL r.bal) (by rw [wordL_len]; omega)
  have h4 := encT_le3 r.code (by have := ho.1; omega)
  have h5 := encT_le3 (wordL r.value) (by rw [wordL_len]; omega)
  have h6 := num8 h.id
  have h7 := num8 h.nonce
  have h8 := wordL_len r.bal
  have h9 := wordL_len r.value
  have ha := ho.1
  unfold ReplyP.fo
  split <;> simp only [Fo.enc, List.length_append, List.length_nil] <;> omega
theorem ReplyP.body_len {kind : Int} {r : ReplyP} (h : r.Wf) (ho : r.Ok kind) : (r.body kind).length ≤ 24703 := by
  have h1 := ReplyP.fo_len h ho
  have h2 := It.list_len (r.fo kind) (by omega)
  unfold ReplyP.body ReplyP.it
  omega
theorem ReplyP.dep (kind : Int) (r : ReplyP) : (r.it kind).dep ≤ 65 := by
  unfold ReplyP.it ReplyP.fo
  split <;> simp [It.dep, Fo.dep]
theorem dec_it (x : It) (hl : x.enc.length < 60000) (hd : x.dep ≤ 65) : decP x.enc = some (x.fo .nil) := by
  rw [decP_it x (by unfold M64; omega), if_pos hd]
theorem enc_inj {x y : It} (hx : x.enc.length < 60000) (dx : x.dep ≤ 65) (dy : y.dep ≤ 65) (h : x.enc = y.enc) : x = y := by
  have h1 := dec_it x hx dx
  have h2 := dec_it y (h ▸ hx) dy
  rw [h, h2] at h1
  cases x <;> cases y <;> simp [It.fo] at h1 <;> simp [h1]
theorem AskP.fo_inj {a b : AskP} (ha : a.Wf) (hb : b.Wf) (oa : a.Ok) (ob : b.Ok) (h : a.fo = b.fo) : a = b := by
  obtain ⟨i, d, s, k⟩ := a
  obtain ⟨i', d', s', k'⟩ := b
  simp only [AskP.fo, Fo.text.injEq] at h
  obtain ⟨h1, h2, h3, h4⟩ := h
  have e1 := num_inj h1
  have e2 := num_inj h2
  have k1 := oa.2
  have k2 := ob.2
  simp only at k1 k2 e1 h3
  have e3 : k = k' := by omega
  subst e1 h3 e3
  rcases k1 with rfl | ⟨rfl, rfl⟩
  · rw [if_pos rfl, if_pos rfl] at h4
    simp only [Fo.text.injEq, and_true] at h4
    have e4 : s = s' := wordL_inj ha.slot hb.slot h4
    rw [e4]
  · obtain rfl : s' = 0 := by omega
    rfl
theorem AskP.inj {a b : AskP} (ha : a.Wf) (hb : b.Wf) (oa : a.Ok) (ob : b.Ok) (h : a.enc = b.enc) : a = b := by
  have h1 := enc_inj (x := a.it) (y := b.it) (by have := AskP.enc_len ha oa; unfold AskP.enc at this; omega) a.dep b.dep h
  refine AskP.fo_inj ha hb oa ob ?_
  simpa [AskP.it] using h1
theorem ReplyP.fo_inj {kind : Int} {a b : ReplyP} (ha : a.Wf) (hb : b.Wf) (oa : a.Ok kind) (ob : b.Ok kind) (h : a.fo kind = b.fo kind) : a = b := by
  obtain ⟨i, n, x, c, v⟩ := a
  obtain ⟨i', n', x', c', v'⟩ := b
  have k1 := oa.2
  have k2 := ob.2
  simp only at k1 k2
  rcases k1 with ⟨rfl, rfl⟩ | ⟨rfl, rfl, rfl, rfl⟩
  · obtain rfl : v' = 0 := by omega
    simp only [ReplyP.fo, if_true, Fo.text.injEq, and_true] at h
    obtain ⟨h1, h2, h3, h4⟩ := h
    have e3 : x = x' := wordL_inj ha.bal hb.bal h3
    rw [num_inj h1, num_inj h2, e3, h4]
  · obtain ⟨rfl, rfl, rfl⟩ : n' = 0 ∧ x' = 0 ∧ c' = [] := by
      rcases k2 with ⟨k, _⟩ | ⟨_, k⟩
      · omega
      · exact k
    simp only [ReplyP.fo] at h
    rw [if_neg (by decide), if_neg (by decide)] at h
    simp only [Fo.text.injEq, and_true] at h
    have e3 : v = v' := wordL_inj ha.value hb.value h.2
    rw [num_inj h.1, e3]
theorem sum4_len (s : List UInt8) : (sum4 s).length = 4 := rfl
theorem ReplyP.body_of {kind : Int} {r : ReplyP} : (r.enc kind).drop 4 = r.body kind := by
  unfold ReplyP.enc
  rw [← sum4_len (r.body kind), List.drop_left]
theorem ReplyP.inj {kind : Int} {a b : ReplyP} (ha : a.Wf) (hb : b.Wf) (oa : a.Ok kind) (ob : b.Ok kind) (h : a.enc kind = b.enc kind) : a = b := by
  have h0 : a.body kind = b.body kind := by rw [← ReplyP.body_of, ← ReplyP.body_of, h]
  have h1 := enc_inj (x := a.it kind) (y := b.it kind) (by have := ReplyP.body_len ha oa; unfold ReplyP.body at this; omega) (a.dep kind) (b.dep kind) h0
  refine ReplyP.fo_inj ha hb oa ob ?_
  simpa [ReplyP.it] using h1
/-- What a text is: the ask that has these bytes, or none. -/
def AskIs (s : List UInt8) : Option AskP → Prop
  | some a => a.Wf ∧ a.Ok ∧ a.enc = s
  | none => ∀ a : AskP, a.Wf → a.Ok → a.enc ≠ s
theorem AskIs.one {s : List UInt8} {o o' : Option AskP} (h : AskIs s o) (h' : AskIs s o') : o = o' := by
  cases o with
  | none => cases o' with
    | none => rfl
    | some b => exact absurd h'.2.2 (h b h'.1 h'.2.1)
  | some a => cases o' with
    | none => exact absurd h.2.2 (h' a h.1 h.2.1)
    | some b => rw [AskP.inj h.1 h'.1 h.2.1 h'.2.1 (h.2.2.trans h'.2.2.symm)]
def ReplyIs (kind : Int) (s : List UInt8) : Option ReplyP → Prop
  | some r => r.Wf ∧ r.Ok kind ∧ r.enc kind = s
  | none => ∀ r : ReplyP, r.Wf → r.Ok kind → r.enc kind ≠ s
theorem ReplyIs.one {kind : Int} {s : List UInt8} {o o' : Option ReplyP} (h : ReplyIs kind s o) (h' : ReplyIs kind s o') : o = o' := by
  cases o with
  | none => cases o' with
    | none => rfl
    | some b => exact absurd h'.2.2 (h b h'.1 h'.2.1)
  | some a => cases o' with
    | none => exact absurd h.2.2 (h' a h.1 h.2.1)
    | some b => rw [ReplyP.inj h.1 h'.1 h.2.1 h'.2.1 (h.2.2.trans h'.2.2.symm)]
end Go.Proofs.YtceagpnonkmfdaaGreat
end
section
set_option maxRecDepth 100000
namespace Go.Proofs.YtceagpnonkmfdaaGreat
open Go.ChangeShapes Go.WideShapes Go.ChangeAt Go.RowKit Go.Deep Go.Joins

theorem size6 {α : Type} {cs : Array α} (h : cs.size = 6) : ∃ c0 c1 c2 c3 c4 c5, cs = #[c0, c1, c2, c3, c4, c5] := by
  obtain ⟨l⟩ := cs
  match l, h with
  | [c0, c1, c2, c3, c4, c5], _ => exact ⟨c0, c1, c2, c3, c4, c5, rfl⟩
theorem size7 {α : Type} {cs : Array α} (h : cs.size = 7) : ∃ c0 c1 c2 c3 c4 c5 c6, cs = #[c0, c1, c2, c3, c4, c5, c6] := by
  obtain ⟨l⟩ := cs
  match l, h with
  | [c0, c1, c2, c3, c4, c5, c6], _ => exact ⟨c0, c1, c2, c3, c4, c5, c6, rfl⟩
theorem size11 {α : Type} {cs : Array α} (h : cs.size = 11) : ∃ c0 c1 c2 c3 c4 c5 c6 c7 c8 c9 c10, cs = #[c0, c1, c2, c3, c4, c5, c6, c7, c8, c9, c10] := by
  obtain ⟨l⟩ := cs
  match l, h with
  | [c0, c1, c2, c3, c4, c5, c6, c7, c8, c9, c10], _ => exact ⟨c0, c1, c2, c3, c4, c5, c6, c7, c8, c9, c10, rfl⟩
theorem cellsU64 : Tryz.prog.cellsOf 41 = 1 := by kernel_rfl
theorem cellsStr : Tryz.prog.cellsOf 9 = 1 := by kernel_rfl
theorem cellsInt : Tryz.prog.cellsOf 3 = 1 := by kernel_rfl
theorem cellsAcc : Tryz.prog.cellsOf 53 = 6 := by kernel_rfl
theorem cellsAsk : Tryz.prog.cellsOf 65 = 7 := by kernel_rfl
theorem cellsReply : Tryz.prog.cellsOf 57 = 11 := by kernel_rfl
section
variable {H : Type} {enc : TypeId × Value → H} {w : World} {base : Nat} {spare : Nat → Bool} {held : Bool}
/-- Cells that read as d. -/
def Trd (enc : TypeId × Value → H) (w : World) (base : Nat) (spare : Nat → Bool) (held : Bool) (t : TypeId) (cs : List Value) (d : DataW H) (p : List MemPlace) : Prop := ∃ n, DataW.trod enc Tryz.prog w base spare held n t cs = some (d, p)
theorem trd_word {c0 c1 c2 c3 : Value} {d : DataW H} {p : List MemPlace} (h : Trd enc w base spare held 51 [c0, c1, c2, c3] d p) :
    ∃ n d3 d2 d1 d0 : Nat, c0 = .int .u64 d3 ∧ c1 = .int .u64 d2 ∧ c2 = .int .u64 d1 ∧ c3 = .int .u64 d0 ∧ d = wordD d3 d2 d1 d0 ∧ p = [] ∧ Dig n d0 d1 d2 d3 := by
  obtain ⟨fuel, h⟩ := h
  obtain ⟨y0, y1, y2, y3, n, hx, _, h0, h1, h2, h3⟩ := trod_struct4 Tryz.underlying51 h
  simp only [cellsU64] at h0 h1 h2 h3
  obtain ⟨n3, e0, rfl, w3⟩ := DataW.trod_int Tryz.underlying41 h0
  obtain ⟨n2, e1, rfl, w2⟩ := DataW.trod_int Tryz.underlying41 h1
  obtain ⟨n1, e2, rfl, w1⟩ := DataW.trod_int Tryz.underlying41 h2
  obtain ⟨n0, e3, rfl, w0⟩ := DataW.trod_int Tryz.underlying41 h3
  obtain ⟨k3, rfl, l3⟩ := u64_of w3
  obtain ⟨k2, rfl, l2⟩ := u64_of w2
  obtain ⟨k1, rfl, l1⟩ := u64_of w1
  obtain ⟨k0, rfl, l0⟩ := u64_of w0
  simp at e0 e1 e2 e3
  simp at hx
  exact ⟨_, k3, k2, k1, k0, e0, e1, e2, e3, hx.1, hx.2, ⟨l0, l1, l2, l3, rfl⟩⟩
theorem trd_word_mk {n d3 d2 d1 d0 : Nat} (h : Dig n d0 d1 d2 d3) : Trd enc w base spare held 51 [.int .u64 d3, .int .u64 d2, .int .u64 d1, .int .u64 d0] (wordD d3 d2 d1 d0) [] := by
  obtain ⟨m, hm⟩ := shut_word (enc := enc) (w := w) (base := base) (spare := spare) (held := held) h
  exact ⟨m, by simpa [Value.cells] using hm⟩
theorem trd_account {c0 c1 c2 c3 c4 c5 : Value} {d : DataW H} {p : List MemPlace} (h : Trd enc w base spare held 53 [c0, c1, c2, c3, c4, c5] d p) :
    ∃ (k n d3 d2 d1 d0 : Nat) (s : ByteArray), c0 = .int .u64 k ∧ c1 = .int .u64 d3 ∧ c2 = .int .u64 d2 ∧ c3 = .int .u64 d1 ∧ c4 = .int .u64 d0 ∧ c5 = .string s ∧ d = .agg [.lit (.int .u64 k), wordD d3 d2 d1 d0, .lit (.string s.data.toList)] ∧ p = [] ∧ k < M64 ∧ Dig n d0 d1 d2 d3 ∧ s.size ≤ maxLen := by
  obtain ⟨fuel, h⟩ := h
  obtain ⟨y0, y1, y2, n, hx, _, h0, h1, h2⟩ := trod_struct3 Tryz.underlying53 h
  simp only [cellsU64, cellsWord, cellsStr] at h0 h1 h2
  obtain ⟨k, e0, rfl, w0⟩ := DataW.trod_int Tryz.underlying41 h0
  obtain ⟨m, d3, d2, d1, d0, q0, q1, q2, q3, ed, ep, hd⟩ := trd_word ⟨n, h1⟩
  obtain ⟨s, e5, rfl, hs⟩ := DataW.trod_string Tryz.underlying9 h2
  obtain ⟨k0, rfl, l0⟩ := u64_of w0
  simp at e0 e5
  simp [ed, ep] at hx
  exact ⟨k0, m, d3, d2, d1, d0, s, e0, q0, q1, q2, q3, e5, hx.1, hx.2, l0, hd, hs⟩
theorem trd_account_mk {k n d3 d2 d1 d0 : Nat} {s : ByteArray} (hk : k < M64) (h : Dig n d0 d1 d2 d3) (hs : s.size ≤ maxLen) :
    Trd enc w base spare held 53 [.int .u64 k, .int .u64 d3, .int .u64 d2, .int .u64 d1, .int .u64 d0, .string s] (.agg [.lit (.int .u64 k), wordD d3 d2 d1 d0, .lit (.string s.data.toList)]) [] := by
  obtain ⟨m, hm⟩ := trd_word_mk (enc := enc) (w := w) (base := base) (spare := spare) (held := held) h
  exact ⟨m + 1 + 1, trod_struct3_mk Tryz.underlying53 (by rw [cellsAcc]; rfl) (y0 := (_, [])) (y1 := (_, [])) (y2 := (_, []))
    (by simp only [cellsU64]; exact trod_int_mk m Tryz.underlying41 (wf_of hk)) (by simp only [cellsWord]; exact DataW.trod_le (Nat.le_succ m) hm) (by simp only [cellsStr]; exact show DataW.trod enc Tryz.prog w base spare held (m + 1) 9 [.string s] = _ by simp [DataW.trod, Tryz.underlying9, hs])⟩
theorem open_account {r : Reach} {b0 : Nat} {v : Value} {d : DataW H} {p : List MemPlace} (hv : Value.okWide Tryz.prog w r b0 53 v) (h : DataW.Trod enc Tryz.prog w base spare held 53 v d p) :
    ∃ (k n d3 d2 d1 d0 : Nat) (s : ByteArray), v = .agg #[.int .u64 k, .int .u64 d3, .int .u64 d2, .int .u64 d1, .int .u64 d0, .string s] ∧ d = .agg [.lit (.int .u64 k), wordD d3 d2 d1 d0, .lit (.string s.data.toList)] ∧ p = [] ∧ k < M64 ∧ Dig n d0 d1 d2 d3 ∧ s.size ≤ maxLen := by
  obtain ⟨cs, rfl, hsz⟩ := okWide_struct Tryz.underlying53 hv
  obtain ⟨c0, c1, c2, c3, c4, c5, rfl⟩ := size6 (hsz.trans cellsAcc)
  obtain ⟨fuel, hf⟩ := h
  obtain ⟨k, n, d3, d2, d1, d0, s, rfl, rfl, rfl, rfl, rfl, rfl, hd, hp, h1, h2, h3⟩ := trd_account ⟨fuel, by simpa [Value.cells] using hf⟩
  exact ⟨k, n, d3, d2, d1, d0, s, rfl, hd, hp, h1, h2, h3⟩
theorem shut_account {k n d3 d2 d1 d0 : Nat} {s : ByteArray} (hk : k < M64) (h : Dig n d0 d1 d2 d3) (hs : s.size ≤ maxLen) :
    DataW.Trod enc Tryz.prog w base spare held 53 (.agg #[.int .u64 k, .int .u64 d3, .int .u64 d2, .int .u64 d1, .int .u64 d0, .string s]) (.agg [.lit (.int .u64 k), wordD d3 d2 d1 d0, .lit (.string s.data.toList)]) [] := by
  obtain ⟨m, hm⟩ := trd_account_mk (enc := enc) (w := w) (base := base) (spare := spare) (held := held) hk h hs
  exact ⟨m, by simpa [Value.cells] using hm⟩
theorem open_askT {r : Reach} {b0 : Nat} {v : Value} {d : DataW H} {p : List MemPlace} (hv : Value.okWide Tryz.prog w r b0 65 v) (h : DataW.Trod enc Tryz.prog w base spare held 65 v d p) :
    ∃ (k n d3 d2 d1 d0 : Nat) (s : ByteArray) (z : Int), v = .agg #[.int .u64 k, .string s, .int .u64 d3, .int .u64 d2, .int .u64 d1, .int .u64 d0, .int .i64 z] ∧ d = .agg [.lit (.int .u64 k), .lit (.string s.data.toList), wordD d3 d2 d1 d0, .lit (.int .i64 z)] ∧ p = [] ∧ k < M64 ∧ Dig n d0 d1 d2 d3 ∧ s.size ≤ maxLen ∧ (Lit.int .i64 z).wf = true := by
  obtain ⟨cs, rfl, hsz⟩ := okWide_struct Tryz.underlying65 hv
  obtain ⟨c0, c1, c2, c3, c4, c5, c6, rfl⟩ := size7 (hsz.trans cellsAsk)
  obtain ⟨fuel, hf⟩ := h
  have hf' : DataW.trod enc Tryz.prog w base spare held fuel 65 [c0, c1, c2, c3, c4, c5, c6] = some (d, p) := by simpa [Value.cells] using hf
  obtain ⟨y0, y1, y2, y3, n, hx, _, h0, h1, h2, h3⟩ := trod_struct4 Tryz.underlying65 hf'
  simp only [cellsU64, cellsWord, cellsStr, cellsInt] at h0 h1 h2 h3
  obtain ⟨k, e0, rfl, w0⟩ := DataW.trod_int Tryz.underlying41 h0
  obtain ⟨s, e1, rfl, hs⟩ := DataW.trod_string Tryz.underlying9 h1
  obtain ⟨m, d3, d2, d1, d0, q0, q1, q2, q3, ed, ep, hd⟩ := trd_word ⟨n, h2⟩
  obtain ⟨z, e6, rfl, w6⟩ := DataW.trod_int Tryz.underlying3 h3
  obtain ⟨k0, rfl, l0⟩ := u64_of w0
  simp at e0 e1 e6
  subst e0 e1 q0 q1 q2 q3 e6
  simp [ed, ep] at hx
  exact ⟨k0, m, d3, d2, d1, d0, s, z, rfl, hx.1, hx.2, l0, hd, hs, w6⟩
theorem shut_askT {k n d3 d2 d1 d0 : Nat} {s : ByteArray} {z : Int} (hk : k < M64) (h : Dig n d0 d1 d2 d3) (hs : s.size ≤ maxLen) (hz : (Lit.int .i64 z).wf = true) :
    DataW.Trod enc Tryz.prog w base spare held 65 (.agg #[.int .u64 k, .string s, .int .u64 d3, .int .u64 d2, .int .u64 d1, .int .u64 d0, .int .i64 z]) (.agg [.lit (.int .u64 k), .lit (.string s.data.toList), wordD d3 d2 d1 d0, .lit (.int .i64 z)]) [] := by
  obtain ⟨m, hm⟩ := trd_word_mk (enc := enc) (w := w) (base := base) (spare := spare) (held := held) h
  have ht := trod_struct4_mk (enc := enc) (w := w) (base := base) (spare := spare) (held := held) (n := m + 1) (cs := [.int .u64 k, .string s, .int .u64 d3, .int .u64 d2, .int .u64 d1, .int .u64 d0, .int .i64 z]) Tryz.underlying65 (by rw [cellsAsk]; rfl) (y0 := (.lit (.int .u64 k), [])) (y1 := (.lit (.string s.data.toList), [])) (y2 := (wordD d3 d2 d1 d0, [])) (y3 := (.lit (.int .i64 z), []))
    (by simp only [cellsU64]; exact trod_int_mk m Tryz.underlying41 (wf_of hk)) (by simp only [cellsStr]; exact show DataW.trod enc Tryz.prog w base spare held (m + 1) 9 [.string s] = _ by simp [DataW.trod, Tryz.underlying9, hs]) (by simp only [cellsWord]; exact DataW.trod_le (Nat.le_succ m) hm) (by simp only [cellsInt]; exact trod_int_mk m Tryz.underlying3 hz)
  exact ⟨_, by simpa [Value.cells] using ht⟩
theorem open_replyT {r : Reach} {b0 : Nat} {v : Value} {d : DataW H} {p : List MemPlace} (hv : Value.okWide Tryz.prog w r b0 57 v) (h : DataW.Trod enc Tryz.prog w base spare held 57 v d p) :
    ∃ (i k n d3 d2 d1 d0 : Nat) (s : ByteArray) (m e3 e2 e1 e0 : Nat), v = .agg #[.int .u64 i, .int .u64 k, .int .u64 d3, .int .u64 d2, .int .u64 d1, .int .u64 d0, .string s, .int .u64 e3, .int .u64 e2, .int .u64 e1, .int .u64 e0] ∧
      d = .agg [.lit (.int .u64 i), .agg [.lit (.int .u64 k), wordD d3 d2 d1 d0, .lit (.string s.data.toList)], wordD e3 e2 e1 e0] ∧ p = [] ∧ i < M64 ∧ k < M64 ∧ Dig n d0 d1 d2 d3 ∧ s.size ≤ maxLen ∧ Dig m e0 e1 e2 e3 := by
  obtain ⟨cs, rfl, hsz⟩ := okWide_struct Tryz.underlying57 hv
  obtain ⟨c0, c1, c2, c3, c4, c5, c6, c7, c8, c9, c10, rfl⟩ := size11 (hsz.trans cellsReply)
  obtain ⟨fuel, hf⟩ := h
  have hf' : DataW.trod enc Tryz.prog w base spare held fuel 57 [c0, c1, c2, c3, c4, c5, c6, c7, c8, c9, c10] = some (d, p) := by simpa [Value.cells] using hf
  obtain ⟨y0, y1, y2, n, hx, _, h0, h1, h2⟩ := trod_struct3 Tryz.underlying57 hf'
  simp only [cellsU64, cellsWord, cellsAcc] at h0 h1 h2
  obtain ⟨i, e0, rfl, w0⟩ := DataW.trod_int Tryz.underlying41 h0
  obtain ⟨k, m, d3, d2, d1, d0, s, q0, q1, q2, q3, q4, q5, ed, ep, hk, hd, hs⟩ := trd_account ⟨n, h1⟩
  obtain ⟨m2, f3, f2, f1, f0, r0, r1, r2, r3, ed2, ep2, hd2⟩ := trd_word ⟨n, h2⟩
  obtain ⟨i0, rfl, l0⟩ := u64_of w0
  simp at e0
  subst e0 q0 q1 q2 q3 q4 q5 r0 r1 r2 r3
  simp [ed, ep, ed2, ep2] at hx
  exact ⟨i0, k, m, d3, d2, d1, d0, s, m2, f3, f2, f1, f0, rfl, hx.1, hx.2, l0, hk, hd, hs, hd2⟩
theorem shut_replyT {i k n d3 d2 d1 d0 : Nat} {s : ByteArray} {m e3 e2 e1 e0 : Nat} (hi : i < M64) (hk : k < M64) (h : Dig n d0 d1 d2 d3) (hs : s.size ≤ maxLen) (h2 : Dig m e0 e1 e2 e3) :
    DataW.Trod enc Tryz.prog w base spare held 57 (.agg #[.int .u64 i, .int .u64 k, .int .u64 d3, .int .u64 d2, .int .u64 d1, .int .u64 d0, .string s, .int .u64 e3, .int .u64 e2, .int .u64 e1, .int .u64 e0])
      (.agg [.lit (.int .u64 i), .agg [.lit (.int .u64 k), wordD d3 d2 d1 d0, .lit (.string s.data.toList)], wordD e3 e2 e1 e0]) [] := by
  obtain ⟨a, ha⟩ := trd_account_mk (enc := enc) (w := w) (base := base) (spare := spare) (held := held) hk h hs
  obtain ⟨b, hb⟩ := trd_word_mk (enc := enc) (w := w) (base := base) (spare := spare) (held := held) h2
  have ht := trod_struct3_mk (enc := enc) (w := w) (base := base) (spare := spare) (held := held) (n := a + b + 1) (cs := [.int .u64 i, .int .u64 k, .int .u64 d3, .int .u64 d2, .int .u64 d1, .int .u64 d0, .string s, .int .u64 e3, .int .u64 e2, .int .u64 e1, .int .u64 e0]) Tryz.underlying57 (by rw [cellsReply]; rfl)
    (y0 := (.lit (.int .u64 i), [])) (y1 := (.agg [.lit (.int .u64 k), wordD d3 d2 d1 d0, .lit (.string s.data.toList)], [])) (y2 := (wordD e3 e2 e1 e0, []))
    (by simp only [cellsU64]; exact trod_int_mk (a + b) Tryz.underlying41 (wf_of hi)) (by simp only [cellsAcc]; exact DataW.trod_le (show a ≤ a + b + 1 by omega) ha) (by simp only [cellsWord]; exact DataW.trod_le (show b ≤ a + b + 1 by omega) hb)
  exact ⟨_, by simpa [Value.cells] using ht⟩
end
end Go.Proofs.YtceagpnonkmfdaaGreat
end
