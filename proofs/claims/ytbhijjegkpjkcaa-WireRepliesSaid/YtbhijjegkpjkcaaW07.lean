/- Merged: Lt1, Lt2, Lt3, Lt4, Lt5, Lt6, KNum, KText, Ca, Cb, Cc, Cd. -/
import Derived.Test.YtbhijjegkpjkcaaW06
import Derived.Test.YtbhijjegkpjkcaaW03
import Derived.StillTailTactics
import Derived.Test.YtbhijjegkpjkcaaW02
import Derived.Deep.WholeRow
import Derived.Laws.Bits64
import Derived.Laws.Bits64b
import Derived.Test.YtbhijjegkpjkcaaRows
import Derived.Lib.SlBytesRow
import Derived.Lib.BufferWrite
import Derived.Laws.BitsAllLaws
import Derived.RegionTactic
section
namespace Go.Proofs.Ytbhijjegkpjkcaa
open Go.RowKit

theorem tk_app (x r : List UInt8) : tk x.length (x ++ r) = some (x, r) := by
  unfold tk
  rw [if_pos (by simp)]
  simp
theorem bodyP_hd (k : Nat) (hk : k + 63 < 256) (x r : List UInt8) (hx : x.length < M64) : ∃ b q, hd k x.length = b :: q ∧ k ≤ b.toNat ∧ b.toNat < k + 64 ∧ bodyP (b.toNat - k) (q ++ (x ++ r)) = some (x, r) := by
  by_cases h : x.length ≤ 55
  · refine ⟨UInt8.ofNat (k + x.length), [], by rw [hd, if_pos h], ?_⟩
    rw [b8 (by omega)]
    refine ⟨by omega, by omega, ?_⟩
    rw [show k + x.length - k = x.length by omega, bodyP, if_pos h]
    exact tk_app x r
  · have h8 := num_length_le (n := x.length) 8 (by unfold M64 at hx; exact hx)
    have h0 := num_length_pos (n := x.length) (by omega)
    refine ⟨UInt8.ofNat (k + 55 + (num x.length).length), num x.length, by rw [hd, if_neg h], ?_⟩
    rw [b8 (by omega)]
    refine ⟨by omega, by omega, ?_⟩
    rw [show k + 55 + (num x.length).length - k = 55 + (num x.length).length by omega, bodyP, if_neg (by omega), show 55 + (num x.length).length - 55 = (num x.length).length by omega, tk_app]
    have hs : smallL (num x.length) = true := by
      unfold smallL
      rw [Bool.and_eq_true]
      refine ⟨by simpa using h8, ?_⟩
      rw [bne_iff_ne]
      intro e
      cases hn : num x.length with
      | nil => rw [hn] at e; cases e
      | cons b q => rw [hn] at e; exact num_head b q hn (by simpa using e)
    simp only [hs, val_num, true_and]
    rw [if_pos (by omega)]
    exact tk_app x r
def Fo.dep : Fo → Nat
  | .nil => 0
  | .text _ r => max 1 r.dep
  | .list i r => max (i.dep + 1) r.dep
def It.dep : It → Nat
  | .text _ => 1
  | .list i => i.dep + 1
theorem It.dep_pos (x : It) : 1 ≤ x.dep := by cases x <;> simp [It.dep]
theorem itemS_text (p : List UInt8 → Option (Fo × List UInt8)) (s r : List UInt8) (hs : (encT s).length < M64) : itemS p (encT s ++ r) = some (.text s .nil, r) := by
  by_cases hb : bareL s = true
  · obtain ⟨b, rfl, hb1⟩ : ∃ b, s = [b] ∧ b.toNat < 128 := by
      rcases s with _ | ⟨b, _ | ⟨c, r⟩⟩
      · cases hb
      · exact ⟨b, rfl, by simpa [bareL] using hb⟩
      · cases hb
    simp [encT, hdT, hb, itemS, hb1]
  · have hl : s.length < M64 := by unfold encT at hs; rw [List.length_append] at hs; omega
    obtain ⟨b, q, h1, h2, h3, h4⟩ := bodyP_hd 128 (by omega) s r hl
    have e : encT s ++ r = b :: (q ++ (s ++ r)) := by simp [encT, hdT, hb, h1]
    rw [e]
    simp only [itemS]
    rw [if_neg (by omega), if_pos (by omega), h4]
    simp [textS, hb]
theorem itemS_list (p : List UInt8 → Option (Fo × List UInt8)) (i : Fo) (r : List UInt8) (hs : i.enc.length < M64) : itemS p ((It.list i).enc ++ r) = match itemsP p i.enc.length i.enc with | none => none | some f => some (.list f .nil, r) := by
  obtain ⟨b, q, h1, h2, h3, h4⟩ := bodyP_hd 192 (by omega) i.enc r hs
  have e : (It.list i).enc ++ r = b :: (q ++ (i.enc ++ r)) := by simp [It.enc, h1]
  rw [e]
  simp only [itemS]
  rw [if_neg (by omega), if_neg (by omega), h4]
  rfl
theorem enc_cons (x : It) : ∃ b q, x.enc = b :: q := by
  cases x with
  | text s => have := encT_pos s; obtain ⟨b, q, h⟩ := List.exists_cons_of_length_pos this; exact ⟨b, q, h⟩
  | list i => have := hd_pos 192 i.enc.length; obtain ⟨b, q, h⟩ := List.exists_cons_of_length_pos this; exact ⟨b, q ++ i.enc, by simp [It.enc, h]⟩
/-- Items one behind the other, if p takes each of them that is not too deep. -/
theorem itemsP_step {p : List UInt8 → Option (Fo × List UInt8)} {d : Nat} (x : It) (r : Fo) (hp : ∀ r, p (x.enc ++ r) = if x.dep ≤ d then some (x.fo .nil, r) else none) (ih : ∀ n, r.enc.length ≤ n → itemsP p n r.enc = if r.dep ≤ d then some r else none) (n : Nat) (hn : (x.enc ++ r.enc).length ≤ n) :
    itemsP p n (x.enc ++ r.enc) = if max x.dep r.dep ≤ d then some (x.fo r) else none := by
  obtain ⟨b, q, hx⟩ := enc_cons x
  have h1 := hp r.enc
  rw [hx] at h1 hn ⊢
  rcases n with _ | n
  · simp at hn
  · rw [List.cons_append] at h1 ⊢
    simp only [itemsP]
    rw [h1]
    by_cases hd : x.dep ≤ d
    · rw [if_pos hd]
      simp only
      rw [ih n (by simp at hn; omega)]
      by_cases hr : r.dep ≤ d
      · rw [if_pos hr, if_pos (by omega)]
        simp only
        rw [It.fo_app]
      · rw [if_neg hr, if_neg (by omega)]
    · rw [if_neg hd, if_neg (by omega)]
theorem itemsP_fo {d : Nat} (hd : ∀ (x : It) (r : List UInt8), x.enc.length < M64 → itemP d (x.enc ++ r) = if x.dep ≤ d then some (x.fo .nil, r) else none) : ∀ (f : Fo) (n : Nat), f.enc.length < M64 → f.enc.length ≤ n → itemsP (itemP d) n f.enc = if f.dep ≤ d then some f else none := by
  intro f
  induction f with
  | nil => intro n _ _; rw [if_pos (by simp [Fo.dep])]; cases n <;> rfl
  | text s r ih =>
    intro n hm hn
    have e : (Fo.text s r).enc = (It.text s).enc ++ r.enc := rfl
    rw [e] at hm hn ⊢
    rw [List.length_append] at hm
    exact itemsP_step (.text s) r (fun q => hd _ q (by omega)) (fun n hn => ih n (by omega) hn) n hn
  | list i r _ ih =>
    intro n hm hn
    have e : (Fo.list i r).enc = (It.list i).enc ++ r.enc := rfl
    rw [e] at hm hn ⊢
    rw [List.length_append] at hm
    exact itemsP_step (.list i) r (fun q => hd _ q (by omega)) (fun n hn => ih n (by omega) hn) n hn
theorem itemP_it : ∀ (d : Nat) (x : It) (r : List UInt8), x.enc.length < M64 → itemP d (x.enc ++ r) = if x.dep ≤ d then some (x.fo .nil, r) else none := by
  intro d
  induction d with
  | zero => intro x r _; rw [if_neg (by have := x.dep_pos; omega)]; rfl
  | succ d ih =>
    intro x r hx
    change itemS (itemP d) (x.enc ++ r) = _
    cases x with
    | text s => rw [if_pos (by simp [It.dep])]; exact itemS_text _ s r hx
    | list i =>
      have hi : i.enc.length < M64 := by simp only [It.enc, List.length_append] at hx; omega
      rw [itemS_list _ i r hi, itemsP_fo ih i _ hi (Nat.le_refl _)]
      by_cases h : i.dep ≤ d
      · rw [if_pos h, if_pos (by simp only [It.dep]; omega)]; rfl
      · rw [if_neg h, if_neg (by simp only [It.dep]; omega)]
theorem decP_it (x : It) (hx : x.enc.length < M64) : decP x.enc = if x.dep ≤ 65 then some (x.fo .nil) else none := by
  have h := itemP_it 65 x [] hx
  rw [List.append_nil] at h
  unfold decP
  rw [h]
  by_cases hd : x.dep ≤ 65
  · rw [if_pos hd, if_pos hd]
  · rw [if_neg hd, if_neg hd]
theorem decP_more (x : It) (hx : x.enc.length < M64) (b : UInt8) (r : List UInt8) : decP (x.enc ++ b :: r) = none := by
  have h := itemP_it 65 x (b :: r) hx
  unfold decP
  rw [h]
  by_cases hd : x.dep ≤ 65
  · rw [if_pos hd]
  · rw [if_neg hd]
end Go.Proofs.Ytbhijjegkpjkcaa
end
section
namespace Go.Proofs.Ytbhijjegkpjkcaa
open Go.RowKit

theorem itemP_one : ∀ (d : Nat) (s : List UInt8) (f : Fo) (r : List UInt8), itemP d s = some (f, r) → ∃ x : It, f = x.fo .nil := by
  intro d s f r h
  cases d with
  | zero => cases h
  | succ d =>
    change itemS (itemP d) s = _ at h
    cases s with
    | nil => cases h
    | cons b s =>
      simp only [itemS] at h
      split at h
      · obtain ⟨h1, _⟩ := Prod.mk.inj (Option.some.inj h)
        exact ⟨.text [b], h1.symm⟩
      · split at h
        · cases hbd : bodyP (b.toNat - 128) s with
          | none => rw [hbd] at h; simp [textS] at h
          | some q =>
            obtain ⟨x, r'⟩ := q
            rw [hbd] at h
            simp only [textS] at h
            split at h
            · cases h
            · obtain ⟨h1, _⟩ := Prod.mk.inj (Option.some.inj h)
              exact ⟨.text x, h1.symm⟩
        · cases hbd : bodyP (b.toNat - 192) s with
          | none => rw [hbd] at h; simp [listS] at h
          | some q =>
            obtain ⟨x, r'⟩ := q
            rw [hbd] at h
            simp only [listS] at h
            split at h
            · cases h
            · next g _ =>
              obtain ⟨h1, _⟩ := Prod.mk.inj (Option.some.inj h)
              exact ⟨.list g, h1.symm⟩
theorem decP_cut (x : It) (hx : x.enc.length < M64) (n : Nat) (hn : n < x.enc.length) : decP (x.enc.take n) = none := by
  cases hd : decP (x.enc.take n) with
  | none => rfl
  | some f =>
    exfalso
    have he := decP_enc hd
    unfold decP at hd
    split at hd
    · next g hg =>
      injection hd with hd
      subst hd
      obtain ⟨y, rfl⟩ := itemP_one _ _ _ _ hg
      rw [It.enc_fo'] at he
      have h1 : x.enc ++ [] = y.enc ++ x.enc.drop n := by rw [he, List.append_nil, List.take_append_drop]
      have h2 := itemP_it (x.dep + y.dep) x [] hx
      have h3 := itemP_it (x.dep + y.dep) y (x.enc.drop n) (by rw [he, List.length_take]; omega)
      rw [if_pos (by omega)] at h2 h3
      rw [h1, h3] at h2
      obtain ⟨_, h4⟩ := Prod.mk.inj (Option.some.inj h2)
      have := congrArg List.length h4
      simp at this
      omega
    · cases hd
/-- The items of parts: so many of them, each out of what is left. -/
def madeL (p : List (Nat × List UInt8) → It × Nat) : Nat → List (Nat × List UInt8) → Fo × Nat
  | 0, _ => (.nil, 0)
  | _ + 1, [] => (.nil, 0)
  | c + 1, l => (((p l).1).fo (madeL p c (l.drop (p l).2)).1, (p l).2 + (madeL p c (l.drop (p l).2)).2)
/-- The item of parts, that may stand in so many lists more; how many of them it took. -/
def madeP : Nat → List (Nat × List UInt8) → It × Nat
  | _, [] => (.text [], 0)
  | 0, (_, s) :: _ => (.text (s.take 300), 1)
  | d + 1, (k, s) :: t => if k % 2 = 0 then (.text (s.take 300), 1) else (.list (madeL (madeP d) (k / 2 % 5) t).1, 1 + (madeL (madeP d) (k / 2 % 5) t).2)
theorem madeL_dep {p : List (Nat × List UInt8) → It × Nat} {d : Nat} (hp : ∀ l, (p l).1.dep ≤ d) : ∀ (c : Nat) (l : List (Nat × List UInt8)), (madeL p c l).1.dep ≤ d := by
  intro c
  induction c with
  | zero => intro l; simp [madeL, Fo.dep]
  | succ c ih =>
    intro l
    cases l with
    | nil => simp [madeL, Fo.dep]
    | cons b l =>
      have h1 := hp (b :: l)
      have h2 := ih ((b :: l).drop (p (b :: l)).2)
      have e : (madeL p (c + 1) (b :: l)).1 = (p (b :: l)).1.fo (madeL p c ((b :: l).drop (p (b :: l)).2)).1 := rfl
      rw [e]
      generalize (madeL p c ((b :: l).drop (p (b :: l)).2)).1 = r at h2 ⊢
      generalize (p (b :: l)).1 = x at h1 ⊢
      cases x <;> simp only [It.fo, Fo.dep, It.dep] at h1 ⊢ <;> omega
theorem madeP_dep : ∀ (d : Nat) (l : List (Nat × List UInt8)), (madeP d l).1.dep ≤ d + 1 := by
  intro d
  induction d with
  | zero => intro l; cases l <;> simp [madeP, It.dep]
  | succ d ih =>
    intro l
    cases l with
    | nil => simp [madeP, It.dep]
    | cons b l =>
      obtain ⟨k, s⟩ := b
      simp only [madeP]
      split
      · simp [It.dep]
      · have := madeL_dep ih (k / 2 % 5) l
        simp only [It.dep]; omega
end Go.Proofs.Ytbhijjegkpjkcaa
end
section
namespace Go.Proofs.Ytbhijjegkpjkcaa
open Go.RowKit

theorem encT_le {s : List UInt8} (h : s.length ≤ 300) : (encT s).length ≤ 303 := by
  have h1 := hd_len 128 s.length
  have h2 := num_length_le (n := s.length) 2 (by simp; omega)
  unfold encT hdT
  rw [List.length_append]
  split
  · simp; omega
  · omega
theorem fo_enc (x : It) (r : Fo) : (x.fo r).enc = x.enc ++ r.enc := by cases x <;> rfl
/-- What parts make: so many of them, and no longer. -/
def MadeOk (p : List (Nat × List UInt8) → It × Nat) : Prop := ∀ l, l.length ≤ 60 → (l ≠ [] → 1 ≤ (p l).2 ∧ (p l).1.enc.length ≤ 310 * (p l).2) ∧ (p l).2 ≤ l.length
theorem madeL_le {p : List (Nat × List UInt8) → It × Nat} (hp : MadeOk p) : ∀ (c : Nat) (l : List (Nat × List UInt8)), l.length ≤ 60 → (madeL p c l).1.enc.length ≤ 310 * (madeL p c l).2 ∧ (madeL p c l).2 ≤ l.length := by
  intro c
  induction c with
  | zero => intro l _; simp [madeL, Fo.enc]
  | succ c ih =>
    intro l hl
    cases l with
    | nil => simp [madeL, Fo.enc]
    | cons b l =>
      obtain ⟨h1, h2⟩ := hp (b :: l) hl
      obtain ⟨h3, h4⟩ := h1 (by simp)
      obtain ⟨h5, h6⟩ := ih ((b :: l).drop (p (b :: l)).2) (by rw [List.length_drop]; omega)
      rw [List.length_drop] at h6
      have e1 : (madeL p (c + 1) (b :: l)).1 = (p (b :: l)).1.fo (madeL p c ((b :: l).drop (p (b :: l)).2)).1 := rfl
      have e2 : (madeL p (c + 1) (b :: l)).2 = (p (b :: l)).2 + (madeL p c ((b :: l).drop (p (b :: l)).2)).2 := rfl
      rw [e1, e2, fo_enc, List.length_append]
      omega
theorem madeP_le : ∀ d, MadeOk (madeP d) := by
  intro d
  induction d with
  | zero =>
    intro l hl
    cases l with
    | nil => exact ⟨fun h => absurd rfl h, Nat.le_refl _⟩
    | cons b l =>
      have h := encT_le (s := b.2.take 300) (by rw [List.length_take]; omega)
      exact ⟨fun _ => ⟨Nat.le_refl _, Nat.le_trans h (by show 303 ≤ 310 * 1; omega)⟩, by show 1 ≤ _; simp⟩
  | succ d ih =>
    intro l hl
    cases l with
    | nil => exact ⟨fun h => absurd rfl h, Nat.le_refl _⟩
    | cons b l =>
      obtain ⟨k, s⟩ := b
      by_cases hk : k % 2 = 0
      · have e : madeP (d + 1) ((k, s) :: l) = (.text (s.take 300), 1) := by simp [madeP, hk]
        have h := encT_le (s := s.take 300) (by rw [List.length_take]; omega)
        rw [e]
        exact ⟨fun _ => ⟨Nat.le_refl _, Nat.le_trans h (by show 303 ≤ 310 * 1; omega)⟩, by show 1 ≤ _; simp⟩
      · have e : madeP (d + 1) ((k, s) :: l) = (.list (madeL (madeP d) (k / 2 % 5) l).1, 1 + (madeL (madeP d) (k / 2 % 5) l).2) := by simp [madeP, hk]
        obtain ⟨h1, h2⟩ := madeL_le ih (k / 2 % 5) l (by simp at hl; omega)
        rw [e]
        have h3 := hd_len 192 (madeL (madeP d) (k / 2 % 5) l).1.enc.length
        have h4 := num_length_le (n := (madeL (madeP d) (k / 2 % 5) l).1.enc.length) 2 (by simp at hl ⊢; omega)
        refine ⟨fun _ => ⟨by show 1 ≤ 1 + _; omega, ?_⟩, by show 1 + _ ≤ _; simp; omega⟩
        show (hd 192 _ ++ _).length ≤ 310 * (1 + _)
        rw [List.length_append]
        omega
theorem madeP_enc (d : Nat) (l : List (Nat × List UInt8)) (hl : l.length ≤ 60) : (madeP d l).1.enc.length ≤ 18600 := by
  obtain ⟨h1, h2⟩ := madeP_le d l hl
  cases l with
  | nil =>
    have e : madeP d [] = (.text [], 0) := by cases d <;> rfl
    rw [e]; decide
  | cons b l => have := (h1 (by simp)).2; omega
end Go.Proofs.Ytbhijjegkpjkcaa
end
section
namespace Go.Proofs.Ytbhijjegkpjkcaa
open Go.RowKit

/-- Parts lie from cell o of block g on. -/
def PAt (W : World) (g : Nat) : Nat → List (Nat × List UInt8) → Prop
  | _, [] => True
  | o, (k, s) :: t => (k < 256 ∧ s.length ≤ 9223372036854775807 ∧ W.cell? ⟨g, o, none⟩ = some (.int .u8 (k : Nat)) ∧ W.cell? ⟨g, o + 1, none⟩ = some (.string (str s))) ∧ PAt W g (o + 2) t
theorem PAt.kept {W W' : World} {g : Nat} (hb : W'.heap[g]? = W.heap[g]?) : ∀ (l : List (Nat × List UInt8)) (o : Nat), PAt W g o l → PAt W' g o l := by
  intro l
  induction l with
  | nil => intro o _; trivial
  | cons b l ih =>
    obtain ⟨k, s⟩ := b
    intro o ⟨⟨h1, h2, h3, h4⟩, h5⟩
    exact ⟨⟨h1, h2, (World.cell?_of_block hb).trans h3, (World.cell?_of_block hb).trans h4⟩, ih _ h5⟩
theorem PAt.drop {W : World} {g : Nat} : ∀ (n : Nat) (l : List (Nat × List UInt8)) (o : Nat), PAt W g o l → PAt W g (o + 2 * min n l.length) (l.drop n) := by
  intro n
  induction n with
  | zero => intro l o h; simpa using h
  | succ n ih =>
    intro l o h
    cases l with
    | nil => trivial
    | cons b l =>
      obtain ⟨k, s⟩ := b
      have := ih l (o + 2) h.2
      rw [show o + 2 * min (n + 1) ((k, s) :: l).length = o + 2 + 2 * min n l.length by simp; omega]
      exact this
/-- What a call of made hands back. -/
def MadeR (q : It × Nat) (w : World) (e : Ending) (w' : World) : Prop :=
  ∃ v, e = .returned (.tuple #[v, .int .i64 (q.2 : Nat)]) ∧ ItV (fun k => w.heap.size ≤ k ∧ k < w'.heap.size) q.1 v w' ∧ Below w.heap.size w w'
end Go.Proofs.Ytbhijjegkpjkcaa
end
section
namespace Go.Proofs.Ytbhijjegkpjkcaa
open Go.RowKit

theorem madeL_end {p : List (Nat × List UInt8) → It × Nat} {C j m : Nat} {t : List (Nat × List UInt8)} {f : Fo} (h : madeL p C t = (f.app (madeL p (C - j) (t.drop m)).1, m + (madeL p (C - j) (t.drop m)).2)) (he : C ≤ j ∨ t.length ≤ m) : madeL p C t = (f, m) := by
  have e : madeL p (C - j) (t.drop m) = (.nil, 0) := by
    rcases he with he | he
    · rw [show C - j = 0 by omega]; rfl
    · rw [List.drop_eq_nil_iff.2 he]
      cases C - j <;> rfl
  rw [h, e]
  simp [Fo.app_nil]
theorem fo_app (x : It) (r : Fo) : x.fo r = (x.fo .nil).app r := by cases x <;> rfl
theorem madeL_step {p : List (Nat × List UInt8) → It × Nat} {C j m : Nat} {t : List (Nat × List UInt8)} {f : Fo} (h : madeL p C t = (f.app (madeL p (C - j) (t.drop m)).1, m + (madeL p (C - j) (t.drop m)).2)) (h1 : j < C) (h2 : m < t.length) :
    madeL p C t = ((f.app ((p (t.drop m)).1.fo .nil)).app (madeL p (C - (j + 1)) (t.drop (m + (p (t.drop m)).2))).1, m + (p (t.drop m)).2 + (madeL p (C - (j + 1)) (t.drop (m + (p (t.drop m)).2))).2) := by
  obtain ⟨b, r, hr⟩ : ∃ b r, t.drop m = b :: r := by
    cases hd : t.drop m with
    | nil => rw [List.drop_eq_nil_iff] at hd; omega
    | cons b r => exact ⟨b, r, rfl⟩
  have e : madeL p (C - j) (t.drop m) = ((p (t.drop m)).1.fo (madeL p (C - (j + 1)) ((t.drop m).drop (p (t.drop m)).2)).1, (p (t.drop m)).2 + (madeL p (C - (j + 1)) ((t.drop m).drop (p (t.drop m)).2)).2) := by
    rw [show C - j = C - (j + 1) + 1 by omega, hr]
    rfl
  rw [h, e, List.drop_drop]
  simp only [Prod.mk.injEq]
  exact ⟨by rw [fo_app, Fo.app_assoc], by omega⟩

/-- What is known at the head of each round. -/
structure MadeS (p : List (Nat × List UInt8) → It × Nat) (C : Nat) (t : List (Nat × List UInt8)) (w : World) (j m : Nat) (W : World) : Prop where
  below : Below w.heap.size w W
  res : W.heap[w.heap.size]? = some (.cells #[.bool false, .string ⟨#[]⟩, .slice none 0 0] 58 (0, 0))
  it : ∃ (f : Fo) (v : Value), W.heap[w.heap.size + 1]? = some (.cells #[.bool true, .string ⟨#[]⟩, v] 58 (0, 0)) ∧ Own (w.heap.size + 2) f v W ∧ f.len ≤ j ∧
    madeL p C t = (f.app (madeL p (C - j) (t.drop m)).1, m + (madeL p (C - j) (t.drop m)).2)
end Go.Proofs.Ytbhijjegkpjkcaa
end
section
namespace Go.Proofs.Ytbhijjegkpjkcaa
open Go.RowKit

theorem encT_show (s : List UInt8) : 2 * s.length + 3 ≤ 5 * (encT s).length := by
  have h := encT_len s
  have h1 := encT_pos s
  by_cases h2 : s.length ≤ 1
  · omega
  · have h3 : 0 < (hdT s).length := by
      unfold hdT
      rw [if_neg]
      · exact hd_pos _ _
      · unfold bareL
        rcases s with _ | ⟨a, _ | ⟨b, s⟩⟩
        · simp at h2
        · simp at h2
        · simp
    omega
theorem Fo.sho_len (f : Fo) : ∀ g : List UInt8, (f.sho g).length ≤ g.length + 5 * f.enc.length := by
  induction f with
  | nil => intro g; simp [Fo.sho]
  | text s r ih =>
    intro g
    have h1 := ih [32]
    have h2 := encT_show s
    simp only [Fo.sho, Fo.enc, List.length_append, hexL_len, List.length_singleton] at h1 ⊢
    omega
  | list i r ih1 ih2 =>
    intro g
    have h1 := ih1 []
    have h2 := ih2 [32]
    have h3 := hd_pos 192 i.enc.length
    simp only [Fo.sho, Fo.enc, List.length_append, List.length_singleton, List.length_nil] at h1 h2 ⊢
    omega
theorem It.sho_len (x : It) : x.sho.length ≤ 5 * x.enc.length := by
  have h := (x.fo .nil).sho_len []
  rw [It.enc_fo'] at h
  cases x <;> simpa [It.sho, It.fo, Fo.sho] using h
theorem It.enc_pos (x : It) : 0 < x.enc.length := by
  cases x with
  | text s => exact encT_pos s
  | list i =>
    have := hd_pos 192 i.enc.length
    simp [It.enc]; omega

/-- What is known amid a law: blocks of items, and items, wherever they lie. -/
structure Kn (w : World) (L : List (Nat × Array Value)) (xs : List (It × Value)) (W : World) : Prop where
  below : Below w.heap.size w W
  blk : ∀ p ∈ L, W.heap[p.1]? = some (.cells p.2 58 (0, 0))
  its : ∀ q ∈ xs, ItV (fun k => k < W.heap.size) q.1 q.2 W
theorem Kn.call {w W W' : World} {L : List (Nat × Array Value)} {xs : List (It × Value)} (h : Kn w L xs W) (hb : Below W.heap.size W W') : Kn w L xs W' :=
  ⟨h.below.trans (hb.mono h.below.size), fun p hp => (hb.block _ (lt_of (h.blk p hp))).trans (h.blk p hp),
    fun q hq => ((h.its q hq).kept (W' := W') (fun k hk => hb.block k hk)).mono (fun _ hk => Nat.lt_of_lt_of_le hk hb.size)⟩
theorem Kn.new {w W W' : World} {L : List (Nat × Array Value)} {xs : List (It × Value)} (h : Kn w L xs W) (hb : Below W.heap.size W W') {x : It} {v : Value} {S : Nat → Prop} (hv : ItV S x v W') (hS : ∀ k, S k → k < W'.heap.size) : Kn w L ((x, v) :: xs) W' :=
  ⟨(h.call hb).below, (h.call hb).blk, fun q hq => by
    rcases List.mem_cons.1 hq with rfl | hq
    · exact hv.mono hS
    · exact (h.call hb).its q hq⟩
theorem Kn.box {w W : World} {L : List (Nat × Array Value)} {xs : List (It × Value)} (h : Kn w L xs W) (cs : Array Value) : Kn w ((W.heap.size, cs) :: L) xs (W.alloc (.cells cs 58)) := by
  have hc := h.call (bel_al W (.cells cs 58))
  refine ⟨hc.below, fun p hp => ?_, hc.its⟩
  rcases List.mem_cons.1 hp with rfl | hp
  · exact heap_alloc_new _ _
  · exact hc.blk p hp
theorem Kn.drew {w W : World} {L : List (Nat × Array Value)} {xs : List (It × Value)} (h : Kn w L xs W) : Kn w L xs W.drew := h.call (Below.refl _ _).drew
theorem Kn.it {w W : World} {L : List (Nat × Array Value)} {xs : List (It × Value)} (h : Kn w L xs W) {x : It} {v : Value} (hm : (x, v) ∈ xs) : ItV (fun k => k < W.heap.size) x v W := h.its _ hm
theorem Kn.start (w : World) : Kn w [] [] w := ⟨Below.refl _ _, by simp, by simp⟩
theorem Kn.cells {w W : World} {L : List (Nat × Array Value)} {xs : List (It × Value)} (h : Kn w L xs W) {b : Nat} {v0 v1 v2 : Value} (hm : (b, #[v0, v1, v2]) ∈ L) :
    W.cell? ⟨b, 0, none⟩ = some v0 ∧ W.cell? ⟨b, 1, none⟩ = some v1 ∧ W.cell? ⟨b, 2, none⟩ = some v2 := (cells3 (h.blk _ hm)).1

theorem PAt.take {W : World} {g : Nat} : ∀ (n : Nat) (l : List (Nat × List UInt8)) (o : Nat), PAt W g o l → PAt W g o (l.take n) := by
  intro n
  induction n with
  | zero => intro l o _; trivial
  | succ n ih =>
    intro l o h
    cases l with
    | nil => trivial
    | cons b l => exact ⟨h.1, ih l _ h.2⟩
/-- A slice of parts that a law is handed. -/
def Parts (W : World) (a : Option Addr) (c : Nat) (l : List (Nat × List UInt8)) : Prop :=
  l.length ≤ c ∧ (l = [] ∨ ∃ g o, a = some ⟨g, o, none⟩ ∧ g < W.heap.size ∧ PAt W g o l)
theorem Parts.later {W W' : World} {a : Option Addr} {c : Nat} {l : List (Nat × List UInt8)} (h : Parts W a c l) (hb : Below W.heap.size W W') : Parts W' a c l := by
  obtain ⟨h1, h2⟩ := h
  refine ⟨h1, ?_⟩
  rcases h2 with h2 | ⟨g, o, e, hg, hp⟩
  · exact Or.inl h2
  · exact Or.inr ⟨g, o, e, Nat.lt_of_lt_of_le hg hb.size, hp.kept (hb.block g hg)⟩
end Go.Proofs.Ytbhijjegkpjkcaa
end
section
namespace Go.Proofs.Ytbhijjegkpjkcaa
open Go.RowKit

/-- A block of n numbers of one kind. -/
def blk (k : IntKind) (n : Nat) (f : Nat → Nat) : Array Value := ((List.range n).map fun i => Value.int k (f i : Int)).toArray
def upd (f : Nat → Nat) (j v : Nat) : Nat → Nat := fun i => if i = j then v else f i
theorem upd_same (f : Nat → Nat) (j v : Nat) : upd f j v j = v := if_pos rfl
theorem upd_other (f : Nat → Nat) {j i : Nat} (v : Nat) (h : i ≠ j) : upd f j v i = f i := if_neg h
theorem blk_size (k : IntKind) (n : Nat) (f : Nat → Nat) : (blk k n f).size = n := by simp [blk]
theorem blk_at (k : IntKind) {n : Nat} (f : Nat → Nat) {j : Nat} (hj : j < n) : (blk k n f)[j]? = some (.int k (f j : Int)) := by simp [blk, hj]
theorem blk_none (k : IntKind) {n : Nat} (f : Nat → Nat) {j : Nat} (hj : n ≤ j) : (blk k n f)[j]? = none := by simp [blk]; omega
theorem blk_set (k : IntKind) {n : Nat} (f : Nat → Nat) (q v : Nat) : (blk k n f).setIfInBounds q (.int k (v : Int)) = blk k n (upd f q v) := by
  apply Array.ext_getElem?
  intro j
  rw [Array.getElem?_setIfInBounds]
  by_cases hj : j < n
  · rw [blk_at _ _ hj, blk_at _ _ hj]
    by_cases e : q = j
    · subst e; simp [blk_size, hj, upd]
    · rw [if_neg e, upd_other _ _ (Ne.symm e)]
  · rw [blk_none _ _ (by omega), blk_none _ _ (by omega)]
    by_cases e : q = j
    · subst e; rw [if_pos rfl, if_neg (by rw [blk_size]; omega)]
    · rw [if_neg e]
theorem blk_congr (k : IntKind) {n : Nat} {f g : Nat → Nat} (h : ∀ j, j < n → f j = g j) : blk k n f = blk k n g := by
  unfold blk
  congr 1
  apply List.map_congr_left
  intro j hj
  rw [h j (by simpa using hj)]
theorem blk_one (k : IntKind) (n : Nat) (f : Nat → Nat) : (blk k n f).all (·.oneCell') = true := by
  rw [Array.all_eq_true_iff_forall_mem]
  intro v hv
  simp only [blk, List.mem_toArray, List.mem_map] at hv
  obtain ⟨i, _, rfl⟩ := hv
  rfl

/-- The number x, of 64 bits, turned left by k. -/
def rotN (x k : Nat) : Nat := (x * 2 ^ (k % 64) % M64) ||| (x / 2 ^ (64 - k % 64))
theorem M64_pow : M64 = 2 ^ 64 := by decide +kernel
theorem rotN_lt {x : Nat} (hx : x < M64) (k : Nat) : rotN x k < M64 := by
  unfold rotN
  rw [M64_pow] at *
  exact Nat.or_lt_two_pow (Nat.mod_lt _ (by decide)) (Nat.lt_of_le_of_lt (Nat.div_le_self _ _) hx)
theorem xor64K {x y : Nat} (hx : x < M64) (hy : y < M64) : Go.bits .xor .u64 (x : Int) (y : Int) = ((x ^^^ y : Nat) : Int) := bits_xor_u64_nat x y hx hy
theorem or64K {x y : Nat} (hx : x < M64) (hy : y < M64) : Go.bits .or .u64 (x : Int) (y : Int) = ((x ||| y : Nat) : Int) := bits_or_u64_nat x y hx hy
theorem and64K {x y : Nat} (hx : x < M64) (hy : y < M64) : Go.bits .and .u64 (x : Int) (y : Int) = ((x &&& y : Nat) : Int) := bits_and_u64_nat x y hx hy
theorem xor_lt {x y : Nat} (hx : x < M64) (hy : y < M64) : x ^^^ y < M64 := by rw [M64_pow] at *; exact Nat.xor_lt_two_pow hx hy
theorem or_ltK {x y : Nat} (hx : x < M64) (hy : y < M64) : x ||| y < M64 := by rw [M64_pow] at *; exact Nat.or_lt_two_pow hx hy
theorem wrap_natK (x : Nat) (hx : x < M64) : IntKind.u64.wrap (x : Int) = (x : Int) := by
  rw [IntKind.wrap_u64]; unfold M64 at hx; omega
theorem wrap_mul_nat (x k : Nat) : IntKind.u64.wrap ((x : Int) * 2 ^ k) = ((x * 2 ^ k % M64 : Nat) : Int) := by
  rw [IntKind.wrap_u64]
  unfold M64
  simp
theorem ret_int {k : IntKind} {a b : Int} (h : a = b) : Ending.returned (.int k a) = .returned (.int k b) := by rw [h]
end Go.Proofs.Ytbhijjegkpjkcaa
end
section
namespace Go.Proofs.Ytbhijjegkpjkcaa
open Go.RowKit

def byteAtK (s : ByteArray) (j : Nat) : Nat := if h : j < s.size then (s[j]'h).toNat else 0
theorem byteAt_ltK (s : ByteArray) (j : Nat) : byteAtK s j < 256 := by
  unfold byteAtK; split
  · exact UInt8.toNat_lt _
  · omega
theorem byteAt_past {s : ByteArray} {j : Nat} (h : s.size ≤ j) : byteAtK s j = 0 := by unfold byteAtK; rw [dif_neg (by omega)]
theorem index_i64K (s : ByteArray) (i : Int) (j : Nat) (hj : j < s.size) (e : i = (j : Int)) (W : World) : (Instr.index 9 (.string s) (.int .i64 i)).run Try.prog W = .ok (.int .u8 (byteAtK s j : Int)) W := by
  subst e
  rw [run_index_string W _ _ _ _ Try.underlying9, dif_pos ⟨by omega, by omega⟩]
  unfold byteAtK
  rw [dif_pos hj]
  simp
theorem byteAt_extract (s : ByteArray) (a b j : Nat) (h : a + j < b) : byteAtK (s.extract a b) j = byteAtK s (a + j) := by
  unfold byteAtK
  by_cases hs : a + j < s.size
  · rw [dif_pos (by rw [ByteArray.size_extract]; omega), dif_pos hs, ByteArray.getElem_extract]
  · rw [dif_neg (by rw [ByteArray.size_extract]; omega), dif_neg hs]

/-- The text of n numbers. -/
def txt (n : Nat) (g : Nat → Nat) : ByteArray := ⟨((List.range n).map fun i => UInt8.ofNat (g i)).toArray⟩
theorem txt_size (n : Nat) (g : Nat → Nat) : (txt n g).size = n := by simp [txt, ByteArray.size]
theorem txt_congr {n : Nat} {f g : Nat → Nat} (h : ∀ j, j < n → f j = g j) : txt n f = txt n g := by
  unfold txt
  congr 2
  apply List.map_congr_left
  intro j hj
  rw [h j (by simpa using hj)]
theorem byteAt_txt {n : Nat} {g : Nat → Nat} (hg : ∀ i, g i < 256) {j : Nat} (hj : j < n) : byteAtK (txt n g) j = g j := by
  have hs : j < (txt n g).size := by rw [txt_size]; exact hj
  unfold byteAtK
  rw [dif_pos hs]
  have : (txt n g)[j]'hs = UInt8.ofNat (g j) := by simp [txt, ByteArray.getElem_eq_getElem_data]
  rw [this, UInt8.toNat_ofNat_of_lt' (hg j)]
theorem txt_byteAt (s : ByteArray) : txt s.size (byteAtK s) = s := by
  apply ByteArray.ext
  apply Array.ext_getElem?
  intro j
  by_cases hj : j < s.size
  · have h2 : j < s.data.size := hj
    simp [txt, hj, byteAtK, ByteArray.getElem_eq_getElem_data]
  · have h2 : ¬ j < s.data.size := hj
    simp [txt, hj]
theorem txt_inj {n : Nat} {f g : Nat → Nat} (hf : ∀ i, f i < 256) (hg : ∀ i, g i < 256) (h : txt n f = txt n g) {j : Nat} (hj : j < n) : f j = g j := by
  rw [← byteAt_txt hf hj, ← byteAt_txt hg hj, h]
/-- The whole row of bytes as a text. -/
theorem conv_blk (w : World) (b n cap : Nat) (g : Nat → Nat) (hg : ∀ i, g i < 256) (t : TypeId) (h : w.heap[b]? = some (.cells (blk .u8 n g) t (0, 0))) :
    (convert 33 9 (.slice (some ⟨b, 0, none⟩) n cap)).run Try.prog w = .ok (.string (txt n g)) w := by
  have := Lib.run_convert_whole (P := Try.prog) w 33 5 9 Try.underlying33 Try.underlying5 Try.underlying9 b 0 (txt n g) (by
    intro i hi
    rw [txt_size] at hi
    have e : (txt n g)[i]'(by rw [txt_size]; exact hi) = UInt8.ofNat (g i) := by simp [txt, ByteArray.getElem_eq_getElem_data]
    rw [Nat.zero_add, show w.cell? ⟨b, i, none⟩ = _ from (by simp [World.cell?, h] : w.cell? ⟨b, i, none⟩ = (blk .u8 n g)[i]?), blk_at _ _ hi, e, UInt8.toNat_ofNat_of_lt' (hg i)]) cap
  rwa [txt_size] at this

/-- The first k as g has them, the others as h. -/
def til (g h : Nat → Nat) (k i : Nat) : Nat := if i < k then g i else h i
theorem til_step (g h : Nat → Nat) (k j : Nat) : upd (til g h k) k (g k) j = til g h (k + 1) j := by
  unfold upd til
  by_cases e : j = k
  · subst e; rw [if_pos rfl, if_pos (by omega)]
  · rw [if_neg e]
    by_cases e2 : j < k
    · rw [if_pos e2, if_pos (by omega)]
    · rw [if_neg e2, if_neg (by omega)]
theorem til_at (g h : Nat → Nat) (k : Nat) : til g h k k = h k := if_neg (Nat.lt_irrefl _)
theorem til_lt {g h : Nat → Nat} {k j : Nat} (hj : j < k) : til g h k j = g j := if_pos hj
theorem til_zero (g h : Nat → Nat) : til g h 0 = h := by funext j; exact if_neg (by omega)

/-- The first k bytes as a lane. -/
def lnK (g : Nat → Nat) : Nat → Nat
  | 0 => 0
  | k + 1 => lnK g k ||| (g k * 2 ^ (8 * k) % M64)
theorem lnK_lt (g : Nat → Nat) (k : Nat) : lnK g k < M64 := by
  induction k with
  | zero => show 0 < M64; decide
  | succ k ih => exact or_ltK ih (Nat.mod_lt _ (by decide))
theorem lnK_congr {f g : Nat → Nat} {k : Nat} (h : ∀ j, j < k → f j = g j) : lnK f k = lnK g k := by
  induction k with
  | zero => rfl
  | succ k ih => rw [lnK, lnK, ih fun j hj => h j (by omega), h k (by omega)]
/-- The state with k lanes of a block xored in; the state behind the block; behind k blocks of a text. -/
def soakF (f s : Nat → Nat) (k i : Nat) : Nat := if i < k then f i ^^^ lnK (fun j => s (8 * i + j)) 8 else f i
theorem soakF_lt {f : Nat → Nat} (hf : ∀ i, f i < M64) (s : Nat → Nat) (k i : Nat) : soakF f s k i < M64 := by
  unfold soakF
  split
  · exact xor_lt (hf i) (lnK_lt _ _)
  · exact hf i
theorem soakF_step (f s : Nat → Nat) (k j : Nat) : upd (soakF f s k) k (f k ^^^ lnK (fun j => s (8 * k + j)) 8) j = soakF f s (k + 1) j := by
  unfold upd soakF
  by_cases e : j = k
  · subst e; rw [if_pos rfl, if_pos (by omega)]
  · rw [if_neg e]
    by_cases e2 : j < k
    · rw [if_pos e2, if_pos (by omega)]
    · rw [if_neg e2, if_neg (by omega)]
theorem soakF_at (f s : Nat → Nat) (k : Nat) : soakF f s k k = f k := if_neg (Nat.lt_irrefl _)
/-- What fills up a text's end of n bytes; a sum's bytes. -/
def padN (s : Nat → Nat) (n j : Nat) : Nat := (if j < n then s j else if j = n then 1 else 0) ^^^ (if j = 135 then 128 else 0)
theorem padN_lt {s : Nat → Nat} (hs : ∀ i, s i < 256) (n j : Nat) : padN s n j < 256 := by
  unfold padN
  refine Nat.xor_lt_two_pow (n := 8) ?_ ?_
  · split
    · exact hs j
    · split <;> omega
  · split <;> omega
def outN (f : Nat → Nat) (i : Nat) : Nat := f (i / 8) / 2 ^ (8 * (i % 8)) % 256
theorem outN_lt (f : Nat → Nat) (i : Nat) : outN f i < 256 := Nat.mod_lt _ (by decide)
end Go.Proofs.Ytbhijjegkpjkcaa
end
section
namespace Go.Proofs.Ytbhijjegkpjkcaa
open Go.RowKit

/-- What is xored in; a sum of 32 bits moved by one bit 0, by k of them. -/
def P32 : Nat := 3988292384
def mv (s : Nat) : Nat := s / 2 ^^^ (s % 2) * P32
def mvk : Nat → Nat → Nat
  | 0, s => s
  | k + 1, s => mv (mvk k s)

theorem xor_half (a b : Nat) : (a ^^^ b) / 2 = a / 2 ^^^ b / 2 := by
  have := Nat.shiftRight_xor_distrib (a := a) (b := b) (i := 1)
  simpa [Nat.shiftRight_eq_div_pow] using this
theorem xor_par (a b : Nat) : (a ^^^ b) % 2 = (a % 2) ^^^ (b % 2) := Nat.xor_mod_two_pow (n := 1)
theorem mv_xor (a b : Nat) : mv (a ^^^ b) = mv a ^^^ mv b := by
  unfold mv
  rw [xor_half, xor_par]
  have e : ((a % 2) ^^^ (b % 2)) * P32 = (a % 2) * P32 ^^^ (b % 2) * P32 := by
    rcases Nat.mod_two_eq_zero_or_one a with e | e <;> rcases Nat.mod_two_eq_zero_or_one b with f | f <;> rw [e, f] <;> simp
  rw [e]
  generalize a % 2 * P32 = x
  generalize b % 2 * P32 = y
  rw [Nat.xor_assoc, Nat.xor_assoc, ← Nat.xor_assoc (b / 2), Nat.xor_comm (b / 2) x, Nat.xor_assoc]
theorem mv_lt {s : Nat} (h : s < 2 ^ 32) : mv s < 2 ^ 32 := by
  refine Nat.xor_lt_two_pow (by omega) ?_
  rcases Nat.mod_two_eq_zero_or_one s with e | e <;> rw [e] <;> decide
theorem mv_even (y : Nat) : mv (y * 2) = y := by
  unfold mv
  rw [Nat.mul_div_cancel _ (by decide), Nat.mul_mod_left]
  simp
theorem mv_nil {s : Nat} (h : s < 2 ^ 32) (e : mv s = 0) : s = 0 := by
  rcases Nat.mod_two_eq_zero_or_one s with f | f
  · unfold mv at e
    rw [f, Nat.zero_mul, Nat.xor_zero] at e
    omega
  · exfalso
    unfold mv at e
    rw [f, Nat.one_mul] at e
    have h1 : (s / 2 ^^^ P32).testBit 31 = true := by
      rw [Nat.testBit_xor, Nat.testBit_lt_two_pow (show s / 2 < 2 ^ 31 by omega)]
      decide
    rw [e] at h1
    simp at h1
theorem mvk_xor (k a b : Nat) : mvk k (a ^^^ b) = mvk k a ^^^ mvk k b := by
  induction k with
  | zero => rfl
  | succ k ih => rw [mvk, mvk, mvk, ih, mv_xor]
theorem mvk_lt (k : Nat) {s : Nat} (h : s < 2 ^ 32) : mvk k s < 2 ^ 32 := by
  induction k with
  | zero => exact h
  | succ k ih => exact mv_lt ih
theorem mvk_nil (k : Nat) {s : Nat} (h : s < 2 ^ 32) (e : mvk k s = 0) : s = 0 := by
  induction k with
  | zero => exact e
  | succ k ih => exact ih (mv_nil (mvk_lt k h) e)
theorem mvk_zero (k : Nat) : mvk k 0 = 0 := by
  induction k with
  | zero => rfl
  | succ k ih => rw [mvk, ih]; decide
theorem mvk_up (k y : Nat) : mvk k (y * 2 ^ k) = y := by
  induction k generalizing y with
  | zero => simp [mvk]
  | succ k ih => rw [mvk, Nat.pow_succ, Nat.mul_comm (2 ^ k), ← Nat.mul_assoc, ih, mv_even]
theorem mvk_add (j k s : Nat) : mvk (j + k) s = mvk j (mvk k s) := by
  induction j with
  | zero => simp [mvk]
  | succ j ih => rw [Nat.succ_add, mvk, mvk, ih]
theorem parted (x k : Nat) : x = x / 2 ^ k * 2 ^ k ^^^ x % 2 ^ k := by
  apply Nat.eq_of_testBit_eq
  intro i
  rw [Nat.testBit_xor, Nat.testBit_mod_two_pow, ← Nat.shiftLeft_eq, Nat.testBit_shiftLeft, ← Nat.shiftRight_eq_div_pow, Nat.testBit_shiftRight]
  by_cases h : i < k
  · simp [h, Nat.not_le.2 h]
  · simp [h, Nat.not_lt.1 h]
theorem mvk_part (k x : Nat) : mvk k x = x / 2 ^ k ^^^ mvk k (x % 2 ^ k) := by
  conv => lhs; rw [parted x k, mvk_xor, mvk_up]
theorem xor_self_nil {a b : Nat} (h : a ^^^ b = 0) : a = b := by
  have := congrArg (· ^^^ b) h
  simpa [Nat.xor_assoc] using this

/-- The sum i moved on by n bytes. -/
def cf (i : Nat) (g : Nat → Nat) : Nat → Nat
  | 0 => i
  | n + 1 => mvk 8 (cf i g n ^^^ g n)
theorem cf_lt {i : Nat} (hi : i < 2 ^ 32) {g : Nat → Nat} (hg : ∀ j, g j < 256) (n : Nat) : cf i g n < 2 ^ 32 := by
  induction n with
  | zero => exact hi
  | succ n ih => exact mvk_lt 8 (Nat.xor_lt_two_pow ih (Nat.lt_trans (hg n) (by decide)))
theorem cf_congr {i : Nat} {f g : Nat → Nat} {n : Nat} (h : ∀ j, j < n → f j = g j) : cf i f n = cf i g n := by
  induction n with
  | zero => rfl
  | succ n ih => rw [cf, cf, ih fun j hj => h j (by omega), h n (by omega)]
theorem cf_add (i : Nat) (g : Nat → Nat) (m n : Nat) : cf i g (m + n) = cf (cf i g m) (fun j => g (m + j)) n := by
  induction n with
  | zero => rfl
  | succ n ih => rw [← Nat.add_assoc, cf, cf, ih]
theorem xor_swap (a b c d : Nat) : a ^^^ b ^^^ (c ^^^ d) = (a ^^^ c) ^^^ (b ^^^ d) := by
  rw [Nat.xor_assoc, Nat.xor_assoc, ← Nat.xor_assoc b, Nat.xor_comm b c, Nat.xor_assoc]
theorem cf_xor (a b : Nat) (f g : Nat → Nat) (n : Nat) : cf (a ^^^ b) (fun j => f j ^^^ g j) n = cf a f n ^^^ cf b g n := by
  induction n with
  | zero => rfl
  | succ n ih => rw [cf, cf, cf, ih, xor_swap, mvk_xor]
theorem cf_nil (n : Nat) : cf 0 (fun _ => 0) n = 0 := by
  induction n with
  | zero => rfl
  | succ n ih => rw [cf, ih]; exact mvk_zero 8
/-- What is moved on by bytes 0 alone is 0 only if it was. -/
theorem cf_past {i : Nat} (hi : i < 2 ^ 32) (n : Nat) (e : cf i (fun _ => 0) n = 0) : i = 0 := by
  induction n with
  | zero => exact e
  | succ n ih =>
    rw [cf, Nat.xor_zero] at e
    exact ih (mvk_nil 8 (cf_lt hi (fun _ => by decide) n) e)
/-- Up to four bytes alone, not all 0, move 0 to what is not 0. -/
def pack (g : Nat → Nat) : Nat → Nat
  | 0 => 0
  | n + 1 => pack g n ^^^ g n * 2 ^ (8 * n)
theorem pack_lt {g : Nat → Nat} (hg : ∀ j, g j < 256) (n : Nat) : pack g n < 2 ^ (8 * n) := by
  induction n with
  | zero => show 0 < 1; decide
  | succ n ih =>
    refine Nat.xor_lt_two_pow (Nat.lt_of_lt_of_le ih (Nat.pow_le_pow_right (by decide) (by omega))) ?_
    rw [Nat.mul_succ, Nat.pow_add, Nat.mul_comm]
    exact Nat.mul_lt_mul_of_pos_left (hg n) (Nat.two_pow_pos _)
theorem pack_nil {g : Nat → Nat} (hg : ∀ j, g j < 256) {n : Nat} (e : pack g n = 0) : ∀ j, j < n → g j = 0 := by
  induction n with
  | zero => intro j hj; omega
  | succ n ih =>
    have h1 := xor_self_nil e
    have h2 := pack_lt hg n
    have h3 : g n = 0 := by
      rcases Nat.eq_zero_or_pos (g n) with h | h
      · exact h
      · have : 2 ^ (8 * n) ≤ g n * 2 ^ (8 * n) := Nat.le_mul_of_pos_left _ h
        omega
    rw [h3, Nat.zero_mul] at h1
    intro j hj
    rcases Nat.lt_succ_iff_lt_or_eq.1 hj with h | rfl
    · exact ih h1 j h
    · exact h3
theorem cf_pack {g : Nat → Nat} (n : Nat) : cf 0 g n = mvk (8 * n) (pack g n) := by
  induction n with
  | zero => rfl
  | succ n ih =>
    have h : mvk (8 * n) (g n * 2 ^ (8 * n)) = g n := mvk_up _ _
    rw [cf, ih, pack, Nat.mul_succ, Nat.add_comm (8 * n) 8, mvk_add, mvk_xor (8 * n), h]
theorem cf_short {g : Nat → Nat} (hg : ∀ j, g j < 256) {n : Nat} (hn : n ≤ 4) (e : cf 0 g n = 0) : ∀ j, j < n → g j = 0 := by
  refine pack_nil hg ?_
  rw [cf_pack] at e
  exact mvk_nil _ (Nat.lt_of_lt_of_le (pack_lt hg n) (Nat.pow_le_pow_right (by decide) (by omega))) e

/-- A sum gone on with. -/
def F32 : Nat := 4294967295
def moreN (sum : Nat) (g : Nat → Nat) (n : Nat) : Nat := F32 ^^^ cf (F32 ^^^ sum) g n
theorem moreN_lt {sum : Nat} (h : sum < 2 ^ 32) {g : Nat → Nat} (hg : ∀ j, g j < 256) (n : Nat) : moreN sum g n < 2 ^ 32 :=
  Nat.xor_lt_two_pow (by decide) (cf_lt (Nat.xor_lt_two_pow (by decide) h) hg n)
theorem xor_twice (a b : Nat) : a ^^^ (a ^^^ b) = b := by rw [← Nat.xor_assoc, Nat.xor_self, Nat.zero_xor]
theorem moreN_add (g : Nat → Nat) (m n sum : Nat) : moreN (moreN sum g m) (fun j => g (m + j)) n = moreN sum g (m + n) := by
  unfold moreN
  rw [xor_twice, cf_add]
theorem moreN_zero (g : Nat → Nat) (sum : Nat) : moreN sum g 0 = sum := xor_twice _ _
theorem moreN_xor (f g h : Nat → Nat) (n : Nat) : moreN 0 (fun j => f j ^^^ g j ^^^ h j) n = moreN 0 f n ^^^ moreN 0 g n ^^^ moreN 0 h n := by
  unfold moreN
  have e : F32 ^^^ 0 = (F32 ^^^ 0) ^^^ (F32 ^^^ 0) ^^^ (F32 ^^^ 0) := by decide
  have k : cf (F32 ^^^ 0) (fun j => f j ^^^ g j ^^^ h j) n = cf (F32 ^^^ 0) f n ^^^ cf (F32 ^^^ 0) g n ^^^ cf (F32 ^^^ 0) h n := by
    conv => lhs; rw [e]
    rw [cf_xor _ _ (fun j => f j ^^^ g j) h, cf_xor]
  rw [k]
  generalize cf (F32 ^^^ 0) f n = x
  generalize cf (F32 ^^^ 0) g n = y
  generalize cf (F32 ^^^ 0) h n = z
  rw [xor_swap F32 x F32 y, Nat.xor_self, Nat.zero_xor, ← Nat.xor_assoc, Nat.xor_comm F32 (x ^^^ y), Nat.xor_assoc (x ^^^ y)]
/-- Texts that differ in up to four bytes in a row from k on: the same sum just if they are the same. -/
theorem moreN_turn {f g : Nat → Nat} (hf : ∀ j, f j < 256) (hg : ∀ j, g j < 256) {k m n : Nat} (hm : m ≤ 4) (hn : k + m ≤ n) (hout : ∀ j, j < n → (j < k ∨ k + m ≤ j) → f j = g j)
    (e : moreN 0 f n = moreN 0 g n) : ∀ j, j < n → f j = g j := by
  have e1 : cf (F32 ^^^ 0) f n = cf (F32 ^^^ 0) g n := by
    have := congrArg (F32 ^^^ ·) e
    simpa [moreN, xor_twice] using this
  have e2 : cf 0 (fun j => f j ^^^ g j) n = 0 := by
    have := cf_xor (F32 ^^^ 0) (F32 ^^^ 0) f g n
    rw [Nat.xor_self, e1, Nat.xor_self] at this
    exact this
  have hb : ∀ j, f j ^^^ g j < 256 := fun j => Nat.xor_lt_two_pow (n := 8) (hf j) (hg j)
  obtain ⟨r, rfl⟩ : ∃ r, n = k + (m + r) := ⟨n - k - m, by omega⟩
  rw [cf_add] at e2
  have e3 : cf 0 (fun j => f j ^^^ g j) k = 0 := by
    rw [cf_congr (g := fun _ => 0) fun j hj => by show f j ^^^ g j = 0; rw [hout j (by omega) (Or.inl hj), Nat.xor_self]]
    exact cf_nil k
  rw [e3, cf_add] at e2
  rw [cf_congr (n := r) (g := fun _ => 0) fun j hj => by show f (k + (m + j)) ^^^ g (k + (m + j)) = 0; rw [hout _ (by omega) (Or.inr (by omega)), Nat.xor_self]] at e2
  have e4 := cf_past (cf_lt (by decide) (fun j => hb _) m) r e2
  have e5 := cf_short (fun j => hb _) hm e4
  intro j hj
  by_cases h1 : j < k
  · exact hout j hj (Or.inl h1)
  · by_cases h2 : k + m ≤ j
    · exact hout j hj (Or.inr h2)
    · have := e5 (j - k) (by omega)
      rw [show k + (j - k) = j by omega] at this
      exact xor_self_nil this
end Go.Proofs.Ytbhijjegkpjkcaa
end
section
namespace Go.Proofs.Ytbhijjegkpjkcaa
open Go.RowKit

theorem xor32 {x y : Nat} (hx : x < 2 ^ 32) (hy : y < 2 ^ 32) : Go.bits .xor .u32 (x : Int) (y : Int) = ((x ^^^ y : Nat) : Int) := u32_xor_nat x y hx hy
theorem and32_one {x : Nat} (hx : x < 2 ^ 32) : Go.bits .and .u32 (x : Int) 1 = ((x % 2 : Nat) : Int) := by
  have := u32_and_nat x 1 hx (by decide)
  rwa [Nat.and_one_is_mod] at this
theorem wrap32 {x : Nat} (hx : x < 2 ^ 32) : IntKind.u32.wrap (x : Int) = (x : Int) := by
  rw [IntKind.wrap_u32']; omega
theorem half_lt {x : Nat} (hx : x < 2 ^ 32) (k : Nat) : x / k < 2 ^ 32 := Nat.lt_of_le_of_lt (Nat.div_le_self _ _) hx
theorem par_lt (x : Nat) : x % 2 * P32 < 2 ^ 32 := by
  rcases Nat.mod_two_eq_zero_or_one x with e | e <;> rw [e] <;> decide

theorem mv_bits {x : Nat} (hx : x < 2 ^ 32) : Go.bits .xor .u32 ((x : Int) / 2) ((x : Int) % 2 * 3988292384) = (mv x : Nat) := by
  have h := xor32 (half_lt hx 2) (par_lt x)
  rw [show mv x = x / 2 ^^^ x % 2 * P32 from rfl, ← h]
  unfold P32
  simp

set_option maxRecDepth 100000 in
set_option maxHeartbeats 1000000 in
theorem moved_c {s : Nat} (hs : s < 2 ^ 32) (w : World) :
    Calls Try.prog 93 #[.int .u32 s] w fun e w' => e = .returned (.int .u32 (mvk 8 s : Nat)) ∧ w = w' := by
  have HL := Lib.hid fun k => mvk_lt k hs
  go_enter Try.func93, Try.ntmps93
  go_wp2_with fail
  go_loop [0, 4] (fun c i => ∃ k : Nat, k ≤ 8 ∧ i = .int .i64 k ∧ c = .int .u32 (mvk k s : Nat)) (fun _ i => 8 - (intOf i).toNat)
  case atStart => exact ⟨0, by omega, rfl, rfl⟩
  case round =>
    obtain ⟨k, hk, rfl, rfl⟩ := hrel
    by_cases hlt : k < 8
    · have hx := HL.out k
      have h1 := and32_one hx
      have h2 := wrap32 (par_lt (mvk k s))
      have h3 := mv_bits hx
      have HN := Lib.hid (show mvk (k + 1) s = mv (mvk k s) from rfl)
      generalize mv (mvk k s) = z at *
      generalize mvk k s = x at *
      have hlti : (k : Int) < 8 := by omega
      clear HL
      go_wp2_with fail
      go_round
      case rel => exact ⟨k + 1, by omega, by go_num, by rw [HN.out]⟩
      case measure => simp [intOf]; omega
    · obtain rfl : k = 8 := by omega
      go_wp2
      go_ret
      exact ⟨rfl, rfl⟩

/-- The reference's step. -/
def stepN (n b : Nat) : Nat := if (n ^^^ b) % 2 = 1 then n / 2 ^^^ P32 else n / 2
theorem stepN_lt {n : Nat} (hn : n < 2 ^ 32) (b : Nat) : stepN n b < 2 ^ 32 := by
  unfold stepN
  split
  · exact Nat.xor_lt_two_pow (by omega) (by decide)
  · omega
theorem step_mv (n b : Nat) : mv (n ^^^ b) = stepN n b ^^^ b / 2 := by
  unfold mv stepN
  rw [xor_half]
  rcases Nat.mod_two_eq_zero_or_one (n ^^^ b) with e | e <;> rw [e]
  · simp
  · rw [if_pos rfl, Nat.one_mul, Nat.xor_assoc, Nat.xor_assoc, Nat.xor_comm (b / 2)]
set_option maxRecDepth 100000 in
set_option maxHeartbeats 1000000 in
theorem step_c {n b : Nat} (hn : n < 2 ^ 32) (hb : b < 2 ^ 32) (w : World) :
    Calls Try.prog 76 #[.int .u32 n, .int .u32 b] w fun e w' => e = .returned (.int .u32 (stepN n b : Nat)) ∧ w = w' := by
  have h1 := xor32 hn hb
  have h2 : Go.bits .xor .u32 ((n : Int) / 2) 3988292384 = ((n / 2 ^^^ P32 : Nat) : Int) := xor32 (half_lt hn 2) (show P32 < 2 ^ 32 by decide)
  by_cases h : (n ^^^ b) % 2 = 1
  · have HN := Lib.hid (show stepN n b = n / 2 ^^^ P32 from if_pos h)
    generalize stepN n b = z at *
    generalize n / 2 ^^^ P32 = y at *
    generalize n ^^^ b = x at *
    have hd : ((x : Int) % 2 == 1) = true := by rw [beq_iff_eq]; omega
    go_enter Try.func76, Try.ntmps76
    go_wp2_with fail
    go_ret
    exact ⟨by rw [HN.out]; rfl, rfl⟩
  · have HN := Lib.hid (show stepN n b = n / 2 from if_neg h)
    generalize stepN n b = z at *
    generalize n ^^^ b = x at *
    have hd : ((x : Int) % 2 == 1) = false := by rw [beq_eq_false_iff_ne]; omega
    go_enter Try.func76, Try.ntmps76
    go_wp2_with fail
    go_ret
    exact ⟨ret_int (by rw [HN.out]; simp), rfl⟩
end Go.Proofs.Ytbhijjegkpjkcaa
end
section
namespace Go.Proofs.Ytbhijjegkpjkcaa
open Go.RowKit

theorem row_setRow {w : World} {b : Nat} {cs cs' : Array Value} {t : TypeId} {fr : Nat × Nat} (h : w.heap[b]? = some (.cells cs t fr)) : (w.setRow b cs').heap[b]? = some (.cells cs' t fr) := by
  simp [World.setRow, Array.getElem?_modify, h]
theorem row_setRow_other {w : World} {b g : Nat} {cs' : Array Value} (h : ¬ b = g) : (w.setRow g cs').heap[b]? = w.heap[b]? := by
  have h' : ¬ g = b := fun e => h e.symm
  simp [World.setRow, Array.getElem?_modify, h']
theorem Below.setRow' {B g : Nat} {a w : World} (h : Below B a w) (hB : B ≤ g) (cs : Array Value) : Below B a (w.setRow g cs) :=
  ⟨h.os, h.tape, h.output, by have := h.size; simpa [World.setRow] using this, fun k hk => (row_setRow_other (by omega)).trans (h.block k hk)⟩
theorem heap_last {w : World} {n : Nat} (o : Obj) (h : n = w.heap.size) : (w.alloc o).heap[n]? = some o := by rw [heap_alloc_get, if_pos h]
theorem heap_down {w : World} {n : Nat} (o : Obj) (h : n < w.heap.size) : (w.alloc o).heap[n]? = w.heap[n]? := by rw [heap_alloc_get, if_neg (by omega)]

/-- The lowest bit of b. -/
def lowN (b : Nat) : Nat := (BitVec.ofNat 64 b &&& - BitVec.ofNat 64 b).toNat
theorem low_bits : ∀ b : Fin 256, Go.bits .and .i64 ((b.val : Nat) : Int) (-((b.val : Nat) : Int)) = ((lowN b.val : Nat) : Int) := by decide +kernel
theorem low_xor : ∀ b : Fin 256, Go.bits .xor .i64 ((b.val : Nat) : Int) ((lowN b.val : Nat) : Int) = ((b.val ^^^ lowN b.val : Nat) : Int) := by decide +kernel
theorem low_lt : ∀ b : Fin 256, b.val ≠ lowN b.val → lowN b.val < b.val ∧ b.val ^^^ lowN b.val < b.val := by decide +kernel

/-- The table. -/
def tabN (b : Nat) : Nat := mvk 8 b
theorem tab_lt {b : Nat} (h : b < 256) : tabN b < 2 ^ 32 := mvk_lt 8 (by omega)
theorem tab_low (b : Nat) : tabN (lowN b) ^^^ tabN (b ^^^ lowN b) = tabN b := by
  unfold tabN
  rw [← mvk_xor, Nat.xor_comm b, xor_twice]

/-- What Table knows behind k entries. -/
structure TabS (w : World) (k : Nat) (W : World) : Prop where
  below : Below w.heap.size w W
  out : W.heap[w.heap.size]? = some (.cells (blk .u32 256 fun _ => 0) 148 (0, 0))
  tab : W.heap[w.heap.size + 1]? = some (.cells (blk .u32 256 (til tabN (fun _ => 0) k)) 148 (0, 0))
theorem TabS.step {w W : World} {k : Nat} (h : TabS w k W) : TabS w (k + 1) (W.setCell ⟨w.heap.size + 1, k, none⟩ (.int .u32 (tabN k : Nat))) := by
  refine ⟨h.below.setCell (by simp) _, (heap_setCell_other _ _ _ _ (by simp)).trans h.out, ?_⟩
  rw [heap_setCell_same _ _ _ _ _ _ h.tab, blk_set]
  congr 2
  exact blk_congr _ fun j _ => til_step _ _ _ _
theorem TabS.drew {w W : World} {k : Nat} (h : TabS w k W) : TabS w k W.drew := ⟨h.below.drew, h.out, h.tab⟩

set_option maxRecDepth 100000 in
set_option maxHeartbeats 2000000 in
theorem table_c (w : World) :
    Calls Try.prog 90 #[] w fun e w' => e = .returned (.agg (blk .u32 256 tabN)) ∧ Below w.heap.size w w' := by
  have hz1 : ∀ w : World, (zeroValue 148).run Try.prog w = .ok (.agg (blk .u32 256 fun _ => 0)) w := fun _ => by kernel_rfl
  have H0 := Lib.hid (show TabS w 0 ((w.alloc (.cells (blk .u32 256 fun _ => 0) 148)).alloc (.cells (blk .u32 256 fun _ => 0) 148)) from
    ⟨((Below.refl _ _).alloc (by omega) _).alloc (by simp) _, by rw [heap_down _ (by simp), heap_last _ rfl], by rw [heap_last _ (by simp), til_zero]⟩)
  go_enter Try.func90, Try.ntmps90
  go_wp2_with fail
  go_loopw [4] (fun i wr => ∃ k : Nat, i = .int .i64 k ∧ k ≤ 256 ∧ TabS w k wr) (fun i _ => 256 - (intOf i).toNat)
  case atStart => exact ⟨0, rfl, by omega, H0.out⟩
  case round =>
    clear H0
    obtain ⟨k, rfl, hk, hS⟩ := hrel
    by_cases hlt : k < 256
    · have hlti : (k : Int) < 256 := by omega
      have b1 := low_bits ⟨k, hlt⟩
      have b2 := low_xor ⟨k, hlt⟩
      have b3 := low_lt ⟨k, hlt⟩
      simp only at b1 b2 b3
      have d0 := (cell_of hS.tab k).trans (blk_at _ _ hlt)
      rw [til_at] at d0
      have e0 := free_of hS.tab k
      by_cases hlow : k = lowN k
      · have R := Lib.hid (fun W => moved_c (show k < 2 ^ 32 by omega) W)
        have HE := Lib.hid hS.step
        have hw : IntKind.u32.wrap (k : Int) = (k : Int) := wrap32 (by omega)
        rw [show mvk 8 k = tabN k from rfl] at R
        rw [← hlow] at b1
        clear hS b2 b3 hlow
        generalize tabN k = z at *
        go_wp2_with (go_at_call 93; refine (R.out _).mono ?_)
        rintro e W ⟨rfl, rfl⟩
        clear R
        go_wp2_with fail
        go_roundw
        case rel => exact ⟨k + 1, by go_num, by omega, HE.out⟩
        case measure => simp [intOf]; omega
      · obtain ⟨l1, l2⟩ := b3 hlow
        have c1 := (cell_of hS.tab (lowN k)).trans (blk_at _ _ (show lowN k < 256 by omega))
        rw [til_lt l1] at c1
        have c2 := (cell_of hS.tab (k ^^^ lowN k)).trans (blk_at _ _ (show k ^^^ lowN k < 256 by omega))
        rw [til_lt l2] at c2
        have x0 := xor32 (tab_lt (show lowN k < 256 by omega)) (tab_lt (show k ^^^ lowN k < 256 by omega))
        rw [tab_low] at x0
        have HE := Lib.hid hS.drew.step
        have hd : ((k : Int) == (lowN k : Int)) = false := by rw [beq_eq_false_iff_ne]; omega
        have i1 : (0 : Int) ≤ (lowN k : Int) ∧ (lowN k : Int) < 256 := by omega
        have i2 : (0 : Int) ≤ (k ^^^ lowN k : Nat) ∧ ((k ^^^ lowN k : Nat) : Int) < 256 := by omega
        have i0 : (0 : Int) ≤ (k : Int) ∧ (k : Int) < 256 := by omega
        clear hS hlow
        generalize tabN (lowN k) = p at *
        generalize tabN (k ^^^ lowN k) = q at *
        generalize tabN k = z at *
        generalize k ^^^ lowN k = m at *
        generalize lowN k = l at *
        go_wp2_with fail
        go_still_tail 11, (by kernel_rfl)
        go_wp2_with fail
        go_roundw
        case rel => exact ⟨k + 1, by go_num, by omega, HE.out⟩
        case measure => simp [intOf]; omega
    · obtain rfl : k = 256 := by omega
      have HB := Lib.hid hS.below
      have HL := Lib.hid hS.tab
      have HM := Lib.hid hS.out
      have HZ := Lib.hid (fun g => show (Try.prog.info? 148).map (·.size) = some (blk .u32 256 g).size by rw [blk_size]; kernel_rfl)
      have HO := Lib.hid (blk_one .u32 256)
      rw [blk_congr .u32 (g := tabN) fun j hj => til_lt hj] at HL
      clear hS
      go_wp2_with (first | (refine wpList_load_row rfl 148 (.tmp 1) rfl (w.heap.size + 1) rfl 148 (blk .u32 256 tabN) (0, 0) _ HL.out Try.underlying148 rfl (HZ.out _) ?_) | (refine wpList_store_row rfl 148 (.tmp 0) (.tmp 31) rfl w.heap.size (blk .u32 256 tabN) rfl rfl 148 (blk .u32 256 fun _ => 0) HM.out (HZ.out _) (by rw [blk_size, blk_size]) (HO.out _) ?_))
      exact bodyPost_ret (results_cell_row Try.results90 _ _ _ _ _ _ _ rfl (row_setRow HM.out) Try.underlying148 rfl (HZ.out _)) rfl ⟨rfl, Below.setRow' HB.out (by omega) _⟩
end Go.Proofs.Ytbhijjegkpjkcaa
end
section
namespace Go.Proofs.Ytbhijjegkpjkcaa
open Go.RowKit

theorem not32 {x : Nat} (hx : x < 2 ^ 32) : Go.bits .xor .u32 IntKind.u32.max (x : Int) = ((F32 ^^^ x : Nat) : Int) := by
  exact u32_xor_nat F32 x (by decide) hx
theorem byte_of (x : Nat) : IntKind.u8.wrap (x : Int) = ((x % 256 : Nat) : Int) := by
  rw [IntKind.wrap_u8]; simp
theorem low8 (x : Nat) {c : Nat} (hc : c < 256) : Go.bits .xor .u8 ((x : Int) % 256) (c : Int) = ((x % 256 ^^^ c : Nat) : Int) := by
  have := u8_xor_nat (x % 256) c (Nat.mod_lt _ (by decide)) hc
  simpa using this
theorem tab_on {c : Nat} (hc : c < 256) (x : Nat) : mvk 8 (x ^^^ c) = x / 256 ^^^ tabN (x % 256 ^^^ c) := by
  rw [mvk_part]
  have h1 : (x ^^^ c) / 2 ^ 8 = x / 256 := by
    have := Nat.shiftRight_xor_distrib (a := x) (b := c) (i := 8)
    rw [Nat.shiftRight_eq_div_pow, Nat.shiftRight_eq_div_pow, Nat.shiftRight_eq_div_pow, Nat.div_eq_of_lt (show c < 2 ^ 8 from hc), Nat.xor_zero] at this
    exact this
  have h2 : (x ^^^ c) % 2 ^ 8 = x % 256 ^^^ c := by
    rw [Nat.xor_mod_two_pow, Nat.mod_eq_of_lt (show c < 2 ^ 8 from hc)]
  rw [h1, h2]
  rfl
theorem on_bits {x c : Nat} (hx : x < 2 ^ 32) (hc : c < 256) : Go.bits .xor .u32 ((x : Int) / 256) ((tabN (x % 256 ^^^ c) : Nat) : Int) = (mvk 8 (x ^^^ c) : Nat) := by
  have hl : x % 256 ^^^ c < 256 := Nat.xor_lt_two_pow (n := 8) (Nat.mod_lt _ (by decide)) hc
  have h := xor32 (half_lt hx 256) (tab_lt hl)
  rw [tab_on hc, ← h]
  simp

set_option maxRecDepth 100000 in
set_option maxHeartbeats 2000000 in
theorem more_c {sum : Nat} (hm : sum < 2 ^ 32) {s : ByteArray} (hs : s.size ≤ maxLen) (w : World) :
    Calls Try.prog 75 #[.int .u32 sum, .string s] w fun e w' => e = .returned (.int .u32 (moreN sum (byteAtK s) s.size : Nat)) ∧ Below w.heap.size w w' := by
  have HX := Lib.hid (fun i j hj e W => index_i64K s i j hj e W)
  have HL := Lib.hid (fun k => cf_lt (Nat.xor_lt_two_pow (show F32 < 2 ^ 32 by decide) hm) (byteAt_ltK s) k)
  have HT := Lib.hid (table_c w)
  have h0 := not32 hm
  have hsg : IntKind.u32.signed = false := rfl
  have HF := Lib.hid (show moreN sum (byteAtK s) s.size = F32 ^^^ cf (F32 ^^^ sum) (byteAtK s) s.size from rfl)
  have HN := Lib.hid (fun k => show cf (F32 ^^^ sum) (byteAtK s) (k + 1) = mvk 8 (cf (F32 ^^^ sum) (byteAtK s) k ^^^ byteAtK s k) from rfl)
  have HZ := Lib.hid (show cf (F32 ^^^ sum) (byteAtK s) 0 = F32 ^^^ sum from rfl)
  generalize moreN sum (byteAtK s) s.size = out at *
  generalize F32 ^^^ sum = i0 at *
  have HK := Lib.hid (fun g => show (Try.prog.info? 148).map (·.size) = some (blk .u32 256 g).size by rw [blk_size]; kernel_rfl)
  have HO := Lib.hid (blk_one .u32 256)
  have HM : ∀ W : World, (W.alloc (.cells (blk .u32 256 fun _ => 0) 148)).heap[W.heap.size]? = some (.cells (blk .u32 256 fun _ => 0) 148 (0, 0)) := fun W => heap_last _ rfl
  have hz1 : ∀ w : World, (zeroValue 148).run Try.prog w = .ok (.agg (blk .u32 256 fun _ => 0)) w := fun _ => by kernel_rfl
  go_enter Try.func75, Try.ntmps75
  go_wp2_with fail
  go_at_call 90
  refine HT.out.mono ?_
  rintro e w1 ⟨rfl, h1⟩
  have H1 := Lib.hid h1; clear h1 HT
  go_wp2_with (first | (refine wpList_store_row rfl 148 (.tmp 5) (.tmp 7) rfl w1.heap.size (blk .u32 256 tabN) rfl rfl 148 (blk .u32 256 fun _ => 0) (HM w1) (HK.out _) (by rw [blk_size, blk_size]) (HO.out _) ?_))
  have HT := Lib.hid (row_setRow (cs' := blk .u32 256 tabN) (HM w1))
  have HB := Lib.hid (Below.setRow' ((H1.out).alloc H1.out.size (.cells (blk .u32 256 fun _ => 0) 148)) H1.out.size (blk .u32 256 tabN))
  clear HM HK HO H1 hz1
  generalize (w1.alloc (.cells (blk .u32 256 fun _ => 0) 148)).setRow w1.heap.size (blk .u32 256 tabN) = W at *
  generalize w1.heap.size = b at *
  have HS := Lib.hid hs; clear hs
  go_loop [0, 12] (fun c i => ∃ k : Nat, k ≤ s.size ∧ i = .int .i64 k ∧ c = .int .u32 (cf i0 (byteAtK s) k : Nat)) (fun _ i => s.size - (intOf i).toNat)
  case atStart => exact ⟨0, by omega, rfl, by rw [HZ.out]⟩
  case round =>
    obtain ⟨k, hk, rfl, rfl⟩ := hrel
    by_cases hlt : k < s.size
    · have hx := fun W => HX.out (k : Int) k hlt rfl W
      have hl := HL.out k
      have hb := byteAt_ltK s k
      have h1 := on_bits hl hb
      have h2 := byte_of (cf i0 (byteAtK s) k)
      have h3 := low8 (cf i0 (byteAtK s) k) hb
      have hp : cf i0 (byteAtK s) k % 256 ^^^ byteAtK s k < 256 := Nat.xor_lt_two_pow (n := 8) (Nat.mod_lt _ (by decide)) hb
      have c0 := (cell_of HT.out (cf i0 (byteAtK s) k % 256 ^^^ byteAtK s k)).trans (blk_at _ _ hp)
      have hpi : (0 : Int) ≤ ((cf i0 (byteAtK s) k % 256 ^^^ byteAtK s k : Nat) : Int) ∧ ((cf i0 (byteAtK s) k % 256 ^^^ byteAtK s k : Nat) : Int) < 256 := by omega
      have HN' := Lib.hid (HN.out k)
      clear HN HX HL HT
      generalize mvk 8 (cf i0 (byteAtK s) k ^^^ byteAtK s k) = z at *
      generalize cf i0 (byteAtK s) k = x at *
      generalize byteAtK s k = y at *
      generalize tabN (x % 256 ^^^ y) = t at *
      generalize x % 256 ^^^ y = p at *
      have hlti : (k : Int) < (s.size : Int) := by omega
      have hw : IntKind.i64.wrap ((k : Int) + 1) = (k : Int) + 1 := IntWalk.i64_in _ (by have := HS.out; unfold maxLen at this; omega)
      go_wp2_with fail
      go_round
      case rel => exact ⟨k + 1, by omega, by go_num, by rw [HN'.out]⟩
      case measure => simp [intOf]; omega
    · obtain rfl : k = s.size := by omega
      have h5 := not32 (HL.out s.size)
      rw [← HF.out] at h5
      clear HN HL HX h0
      go_wp2_with fail
      go_ret
      exact ⟨rfl, HB.out⟩
/-- The sum of a text. -/
def sumN (s : ByteArray) : Nat := moreN 0 (byteAtK s) s.size
theorem sumN_lt (s : ByteArray) : sumN s < 2 ^ 32 := moreN_lt (by decide) (byteAt_ltK s) _
set_option maxRecDepth 100000 in
set_option maxHeartbeats 1000000 in
theorem sum_c {s : ByteArray} (hs : s.size ≤ maxLen) (w : World) :
    Calls Try.prog 52 #[.string s] w fun e w' => e = .returned (.int .u32 (sumN s : Nat)) ∧ Below w.heap.size w w' := by
  have HT := Lib.hid (more_c (show 0 < 2 ^ 32 by decide) hs w)
  rw [show moreN 0 (byteAtK s) s.size = sumN s from rfl] at HT
  generalize sumN s = z at *
  clear hs
  go_enter Try.func52, Try.ntmps52
  go_wp2_with fail
  go_at_call 75
  refine HT.out.mono ?_
  rintro e w1 ⟨rfl, h1⟩
  have H1 := Lib.hid h1; clear h1 HT
  go_wp2_with fail
  go_ret
  exact ⟨rfl, H1.out⟩
end Go.Proofs.Ytbhijjegkpjkcaa
end
