/- Frames as plain lists of bytes: what a frame is, the text of the frame at a front, the texts of frames in a row. -/
import Derived.Test.YtialfpkmcafkmaaGreatCd
import Derived.Test.YtialfpkmcafkmaaGreatDkc
namespace Go.Proofs.YtialfpkmcafkmaaGreat
open Go.RowKit

theorem str_app (a b : List UInt8) : str a ++ str b = str (a ++ b) := by
  apply ByteArray.ext
  simp [str]
theorem str_inj {a b : List UInt8} (h : str a = str b) : a = b := by rw [← str_list a, h, str_list]
theorem byteAt_str (l : List UInt8) (j : Nat) : byteAt (str l) j = (l.getD j 0).toNat := by
  unfold byteAt
  by_cases h : j < l.length
  · rw [dif_pos (by rw [str_size]; exact h)]
    simp [str, ByteArray.getElem_eq_getElem_data, h]
  · rw [dif_neg (by rw [str_size]; exact h)]
    simp [h]
theorem sum_app (a b : List UInt8) : moreN (sumN (str a)) (byteAt (str b)) (str b).size = sumN (str (a ++ b)) := by
  have h := moreN_add (byteAt (str (a ++ b))) a.length b.length 0
  have e1 : moreN 0 (byteAt (str (a ++ b))) a.length = sumN (str a) := by
    unfold sumN moreN
    rw [str_size]
    congr 1
    exact cf_congr fun j hj => by rw [byteAt_str, byteAt_str]; simp [List.getElem?_append_left, hj]
  have e2 : ∀ x, moreN x (fun j => byteAt (str (a ++ b)) (a.length + j)) b.length = moreN x (byteAt (str b)) (str b).size := fun x => by
    unfold moreN
    rw [str_size]
    congr 1
    exact cf_congr fun j hj => by rw [byteAt_str, byteAt_str]; simp [List.getElem?_append_right]
  rw [e1, e2] at h
  rw [h]
  unfold sumN
  rw [str_size, List.length_append]

/-- A number's be4 bytes, the highest first; what bytes are as a number. -/
def be4 (n : Nat) : List UInt8 := [UInt8.ofNat (n / 16777216), UInt8.ofNat (n / 65536), UInt8.ofNat (n / 256), UInt8.ofNat n]
def num (s : List UInt8) : Nat := s.foldl (fun n b => n * 256 + b.toNat) 0
theorem be4_len (n : Nat) : (be4 n).length = 4 := rfl
theorem num_be4 {n : Nat} (h : n < 4294967296) : num (be4 n) = n := by
  simp only [num, be4, List.foldl, UInt8.toNat_ofNat']
  omega
theorem be4_num {s : List UInt8} (h : s.length = 4) : be4 (num s) = s := by
  match s, h with
  | [a, b, c, d], _ =>
    have ha := a.toNat_lt
    have hb := b.toNat_lt
    have hc := c.toNat_lt
    have hd := d.toNat_lt
    simp only [num, be4, List.foldl]
    have k : ∀ (u : UInt8) (n : Nat), n % 256 = u.toNat → UInt8.ofNat n = u := fun u n e => UInt8.toNat_inj.1 (by rw [UInt8.toNat_ofNat']; exact e)
    rw [k a _ (by omega), k b _ (by omega), k c _ (by omega), k d _ (by omega)]
theorem num_lt {s : List UInt8} (h : s.length = 4) : num s < 4294967296 := by
  match s, h with
  | [a, b, c, d], _ =>
    have ha := a.toNat_lt
    have hb := b.toNat_lt
    have hc := c.toNat_lt
    have hd := d.toNat_lt
    simp only [num, List.foldl]
    omega
theorem num_step (s : List UInt8) {k : Nat} (hk : k < s.length) : num (s.take (k + 1)) = num (s.take k) * 256 + byteAt (str s) k := by
  rw [byteAt_str, List.take_add_one, List.getElem?_eq_getElem hk]
  simp only [num, Option.toList, List.foldl_append, List.foldl]
  simp [hk]

/-- The frame of a text. -/
def fr (t : List UInt8) : List UInt8 := be4 t.length ++ (be4 (sumN (str (be4 t.length ++ t))) ++ t)
theorem fr_len (t : List UInt8) : (fr t).length = t.length + 8 := by
  simp only [fr, List.length_append, be4_len]
  omega
theorem fr_drop (t : List UInt8) : (fr t).drop 8 = t := by
  simp [fr, be4]
theorem fr_take (t r : List UInt8) : (fr t ++ r).take 4 = be4 t.length := by
  simp [fr, be4]
theorem fr_text (t r : List UInt8) : ((fr t ++ r).drop 8).take t.length = t := by
  rw [List.drop_append_of_le_length (by rw [fr_len]; omega), fr_drop]
  simp
/-- The text of the frame at the front. -/
def firstP (s : List UInt8) : Option (List UInt8) :=
  if ((s.drop 8).take (num (s.take 4))).length ≤ 65536 ∧ (fr ((s.drop 8).take (num (s.take 4)))).isPrefixOf s = true then some ((s.drop 8).take (num (s.take 4))) else none
theorem firstP_some {s t : List UInt8} : firstP s = some t ↔ t.length ≤ 65536 ∧ ∃ r, s = fr t ++ r := by
  unfold firstP
  constructor
  · intro h
    split at h
    · rename_i hc
      injection h with h
      rw [h] at hc
      obtain ⟨r, hr⟩ := List.isPrefixOf_iff_prefix.1 hc.2
      exact ⟨hc.1, r, hr.symm⟩
    · cases h
  · rintro ⟨h1, r, rfl⟩
    rw [fr_take, num_be4 (by omega), fr_text]
    rw [if_pos ⟨h1, List.isPrefixOf_iff_prefix.2 ⟨r, rfl⟩⟩]
theorem firstP_fr {t : List UInt8} (h : t.length ≤ 65536) (r : List UInt8) : firstP (fr t ++ r) = some t := firstP_some.2 ⟨h, r, rfl⟩
theorem firstP_nil : firstP [] = none := by
  cases h : firstP [] with
  | none => rfl
  | some t =>
    obtain ⟨_, r, hr⟩ := firstP_some.1 h
    have := congrArg List.length hr
    rw [List.length_append, fr_len] at this
    rw [List.length_nil] at this
    omega
/-- The frames of texts, in a row. -/
def frs : List (List UInt8) → List UInt8
  | [] => []
  | t :: l => fr t ++ frs l
theorem frs_append (l m : List (List UInt8)) : frs (l ++ m) = frs l ++ frs m := by
  induction l with
  | nil => rfl
  | cons t l ih => simp [frs, ih]
theorem frs_one (t : List UInt8) : frs [t] = fr t := by simp [frs]
/-- s is these texts' frames, and a rest that begins with none. -/
structure Fs (s : List UInt8) (l : List (List UInt8)) (r : List UInt8) : Prop where
  eq : s = frs l ++ r
  all : ∀ t ∈ l, t.length ≤ 65536
  none : firstP r = none
theorem Fs.inj {s : List UInt8} {l m : List (List UInt8)} {r q : List UInt8} (h : Fs s l r) (k : Fs s m q) : l = m ∧ r = q := by
  induction l generalizing s m with
  | nil =>
    cases m with
    | nil => exact ⟨rfl, by rw [← List.nil_append r, ← List.nil_append q]; exact h.eq.symm.trans k.eq⟩
    | cons t m =>
      have h1 := h.none
      have h2 : r = fr t ++ (frs m ++ q) := by have := h.eq.symm.trans k.eq; simpa [frs] using this
      rw [h2, firstP_fr (k.all t (by simp))] at h1
      cases h1
  | cons t l ih =>
    have h2 : s = fr t ++ (frs l ++ r) := by have := h.eq; simpa [frs] using this
    cases m with
    | nil =>
      have h1 := k.none
      have h3 : q = s := by have := k.eq; simpa [frs] using this.symm
      rw [h3, h2, firstP_fr (h.all t (by simp))] at h1
      cases h1
    | cons u m =>
      have h3 : s = fr u ++ (frs m ++ q) := by have := k.eq; simpa [frs] using this
      have h4 : t = u := by
        have e1 := firstP_fr (h.all t (by simp)) (frs l ++ r)
        have e2 := firstP_fr (k.all u (by simp)) (frs m ++ q)
        rw [← h2] at e1; rw [← h3] at e2
        rw [e1] at e2
        injection e2
      subst h4
      obtain ⟨e1, e2⟩ := ih (s := frs l ++ r) (m := m) ⟨rfl, fun x hx => h.all x (by simp [hx]), h.none⟩ ⟨List.append_cancel_left (h2.symm.trans h3), fun x hx => k.all x (by simp [hx]), k.none⟩
      exact ⟨by rw [e1], e2⟩
theorem Fs.own {l : List (List UInt8)} (h : ∀ t ∈ l, t.length ≤ 65536) : Fs (frs l) l [] := ⟨by simp, h, firstP_nil⟩
theorem Fs.nil : Fs [] [] [] := ⟨rfl, by simp, firstP_nil⟩
end Go.Proofs.YtialfpkmcafkmaaGreat
