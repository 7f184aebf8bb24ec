/- Bytes of items: numbers, what stands ahead, encoding, decoding, showing, as plain lists; and how an item lies in memory. -/
import Derived.Test.YtgaaalacoeainaaBase
import Derived.Test.YtgaaalacoeainaaRows
import Derived.Lib.SlBytesRow
import Derived.Lib.BufferWrite
namespace Go.Proofs.Ytgaaalacoeainaa
open Go.RowKit

/-- A text out of bytes. -/
def str (l : List UInt8) : ByteArray := ⟨l.toArray⟩
theorem str_size (l : List UInt8) : (str l).size = l.length := by simp [str, ByteArray.size]
theorem str_list (s : ByteArray) : str s.data.toList = s := by simp [str]
theorem str_inj {a b : List UInt8} (h : str a = str b) : a = b := by
  have := congrArg (fun s => s.data.toList) h
  simpa [str] using this
theorem str_nil : str [] = ⟨#[]⟩ := rfl
theorem str_append (a b : List UInt8) : str a ++ str b = str (a ++ b) := by
  apply ByteArray.ext
  simp [str, ByteArray.data_append]
theorem str_get (l : List UInt8) (i : Nat) (h : i < (str l).size) : (str l)[i]'h = l[i]'(by rw [← str_size]; exact h) := by
  simp [str, ByteArray.getElem_eq_getElem_data]

theorem b8 {n : Nat} (h : n < 256) : (UInt8.ofNat n).toNat = n := UInt8.toNat_ofNat_of_lt' h
theorem snoc_ind {α : Type} {P : List α → Prop} (h0 : P []) (hs : ∀ l b, P l → P (l ++ [b])) (l : List α) : P l := by
  rw [← l.reverse_reverse]
  induction l.reverse with
  | nil => exact h0
  | cons b t ih => rw [List.reverse_cons]; exact hs _ _ ih
/-- A number's bytes, the highest first, none ahead that is 0. -/
def num (n : Nat) : List UInt8 := if _h : n = 0 then [] else num (n / 256) ++ [UInt8.ofNat (n % 256)]
termination_by n
decreasing_by omega
theorem num_zero : num 0 = [] := by rw [num]; simp
theorem num_pos {n : Nat} (h : n ≠ 0) : num n = num (n / 256) ++ [UInt8.ofNat (n % 256)] := by rw [num, dif_neg h]
/-- The number of bytes. -/
def val (l : List UInt8) : Nat := l.foldl (fun a b => a * 256 + b.toNat) 0
theorem val_snoc (l : List UInt8) (b : UInt8) : val (l ++ [b]) = val l * 256 + b.toNat := by simp [val]
theorem val_num (n : Nat) : val (num n) = n := by
  induction n using Nat.strongRecOn with
  | ind n ih =>
    by_cases h : n = 0
    · subst h; rw [num_zero]; rfl
    · rw [num_pos h, val_snoc, ih _ (by omega), b8 (Nat.mod_lt _ (by decide))]; omega
theorem num_length_le {n : Nat} : ∀ k, n < 256 ^ k → (num n).length ≤ k := by
  induction n using Nat.strongRecOn with
  | ind n ih =>
    intro k hk
    by_cases h : n = 0
    · subst h; rw [num_zero]; simp
    · rcases k with _ | k
      · simp at hk; omega
      · rw [num_pos h, List.length_append]
        have := ih (n / 256) (by omega) k (by rw [Nat.pow_succ] at hk; omega)
        simp; omega
theorem num_head {n : Nat} : ∀ b r, num n = b :: r → b ≠ 0 := by
  induction n using Nat.strongRecOn with
  | ind n ih =>
    intro b r hr
    by_cases h : n = 0
    · subst h; rw [num_zero] at hr; cases hr
    · rw [num_pos h] at hr
      by_cases h2 : n / 256 = 0
      · rw [h2, num_zero] at hr
        simp at hr
        intro hb
        rw [hb] at hr
        have := congrArg UInt8.toNat hr.1
        rw [b8 (Nat.mod_lt _ (by decide))] at this
        have h3 : (0 : UInt8).toNat = 0 := rfl
        omega
      · have hne : num (n / 256) ≠ [] := by
          rw [num_pos h2]; simp
        obtain ⟨c, q, hc⟩ := List.exists_cons_of_ne_nil hne
        rw [hc] at hr
        simp at hr
        rw [← hr.1]
        exact ih _ (by omega) c q hc
theorem num_length_pos {n : Nat} (h : n ≠ 0) : 0 < (num n).length := by rw [num_pos h]; simp
theorem val_lt (l : List UInt8) : val l < 256 ^ l.length := by
  refine snoc_ind (P := fun l => val l < 256 ^ l.length) (by simp [val]) (fun l b ih => ?_) l
  rw [val_snoc, List.length_append, Nat.pow_add]
  have := b.toNat_lt
  simp; omega
theorem num_val (l : List UInt8) : (∀ b r, l = b :: r → b ≠ 0) → num (val l) = l := by
  refine snoc_ind (P := fun l => (∀ b r, l = b :: r → b ≠ 0) → num (val l) = l) (fun _ => by simp [val, num_zero]) (fun l b ih h => ?_) l
  · have hb := b.toNat_lt
    rw [val_snoc]
    rcases l with _ | ⟨c, l⟩
    · have hb0 : b ≠ 0 := h b [] rfl
      have hn : b.toNat ≠ 0 := fun e => hb0 (by rw [← UInt8.ofNat_toNat (x := b), e]; rfl)
      have e1 : val [] * 256 + b.toNat = b.toNat := by simp [val]
      rw [e1, num_pos hn, show b.toNat / 256 = 0 by omega, num_zero, show b.toNat % 256 = b.toNat by omega]
      simp
    · have hl : num (val (c :: l)) = c :: l := ih (fun b' r' e => h b' (r' ++ [b]) (by rw [e]; rfl))
      have h0 : val (c :: l) ≠ 0 := fun e => by rw [e, num_zero] at hl; cases hl
      rw [num_pos (by omega), show (val (c :: l) * 256 + b.toNat) / 256 = val (c :: l) by omega, show (val (c :: l) * 256 + b.toNat) % 256 = b.toNat by omega, hl]
      simp

/-- What stands ahead of so many bytes. -/
def hd (k n : Nat) : List UInt8 := if n ≤ 55 then [UInt8.ofNat (k + n)] else UInt8.ofNat (k + 55 + (num n).length) :: num n
/-- Is a text its one byte? -/
def bareL : List UInt8 → Bool
  | [b] => decide (b.toNat < 128)
  | _ => false
def hdT (s : List UInt8) : List UInt8 := if bareL s then [] else hd 128 s.length
def encT (s : List UInt8) : List UInt8 := hdT s ++ s

/-- Items one behind the other: texts and lists. -/
inductive Fo where
  | nil : Fo
  | text (s : List UInt8) (r : Fo) : Fo
  | list (i r : Fo) : Fo
def Fo.len : Fo → Nat
  | .nil => 0
  | .text _ r => r.len + 1
  | .list _ r => r.len + 1
def Fo.app : Fo → Fo → Fo
  | .nil, g => g
  | .text s r, g => .text s (r.app g)
  | .list i r, g => .list i (r.app g)
def Fo.enc : Fo → List UInt8
  | .nil => []
  | .text s r => encT s ++ r.enc
  | .list i r => hd 192 i.enc.length ++ i.enc ++ r.enc
theorem Fo.app_nil (f : Fo) : f.app .nil = f := by
  induction f with
  | nil => rfl
  | text s r ih => simp [Fo.app, ih]
  | list i r _ ih => simp [Fo.app, ih]
theorem Fo.app_assoc (f g h : Fo) : (f.app g).app h = f.app (g.app h) := by
  induction f with
  | nil => rfl
  | text s r ih => simp [Fo.app, ih]
  | list i r _ ih => simp [Fo.app, ih]
theorem Fo.enc_app (f g : Fo) : (f.app g).enc = f.enc ++ g.enc := by
  induction f with
  | nil => rfl
  | text s r ih => simp [Fo.app, Fo.enc, ih]
  | list i r _ ih => simp [Fo.app, Fo.enc, ih]
theorem Fo.len_app (f g : Fo) : (f.app g).len = f.len + g.len := by
  induction f with
  | nil => simp [Fo.app, Fo.len]
  | text s r ih => simp [Fo.app, Fo.len, ih]; omega
  | list i r _ ih => simp [Fo.app, Fo.len, ih]; omega

/-- Take so many bytes. -/
def tk (n : Nat) (s : List UInt8) : Option (List UInt8 × List UInt8) := if n ≤ s.length then some (s.take n, s.drop n) else none
/-- Is it a number's text of at most eight bytes? -/
def smallL (s : List UInt8) : Bool := decide (s.length ≤ 8) && (s.head? != some 0)
def bodyP (a : Nat) (s : List UInt8) : Option (List UInt8 × List UInt8) :=
  if a ≤ 55 then tk a s else
    match tk (a - 55) s with
    | none => none
    | some (n, r) => if smallL n = true ∧ 55 < val n then tk (val n) r else none
def itemsP (p : List UInt8 → Option (Fo × List UInt8)) : Nat → List UInt8 → Option Fo
  | _, [] => some .nil
  | 0, _ :: _ => none
  | n + 1, b :: s =>
    match p (b :: s) with
    | none => none
    | some (f, r) =>
      match itemsP p n r with
      | none => none
      | some g => some (f.app g)
/-- A text, a list, out of their bytes. -/
def textS : Option (List UInt8 × List UInt8) → Option (Fo × List UInt8)
  | none => none
  | some (x, r') => if bareL x then none else some (.text x .nil, r')
def listS (p : List UInt8 → Option (Fo × List UInt8)) : Option (List UInt8 × List UInt8) → Option (Fo × List UInt8)
  | none => none
  | some (x, r') =>
    match itemsP p x.length x with
    | none => none
    | some f => some (.list f .nil, r')
/-- An item out of bytes; p: an item in one list more. -/
def itemS (p : List UInt8 → Option (Fo × List UInt8)) : List UInt8 → Option (Fo × List UInt8)
  | [] => none
  | b :: r =>
    if b.toNat < 128 then some (.text [b] .nil, r)
    else if b.toNat < 192 then textS (bodyP (b.toNat - 128) r)
    else listS p (bodyP (b.toNat - 192) r)
/-- .. that may stand in so many lists and one less. -/
def itemP : Nat → List UInt8 → Option (Fo × List UInt8)
  | 0 => fun _ => none
  | d + 1 => itemS (itemP d)
/-- All of a text as one item. -/
def decP (s : List UInt8) : Option Fo :=
  match itemP 65 s with
  | some (f, []) => some f
  | _ => none

/-- Sixteenths. -/
def hexD (n : Nat) : UInt8 := [48, 49, 50, 51, 52, 53, 54, 55, 56, 57, 97, 98, 99, 100, 101, 102].getD n 0
def hexL (s : List UInt8) : List UInt8 := s.flatMap fun b => [hexD (b.toNat / 16), hexD (b.toNat % 16)]
/-- What is shown, with a gap ahead. -/
def Fo.sho : Fo → List UInt8 → List UInt8
  | .nil, _ => []
  | .text s r, g => g ++ [34] ++ hexL s ++ [34] ++ r.sho [32]
  | .list i r, g => g ++ [91] ++ i.sho [] ++ [93] ++ r.sho [32]

/-- The items f lie one behind the other from cell o of block g on; what they name lies in blocks of S. -/
def Fo.At (S : Nat → Prop) : Fo → Nat → Nat → World → Prop
  | .nil, _, _, _ => True
  | .text s r, g, o, W => (W.cell? ⟨g, o, none⟩ = some (.bool false) ∧ W.cell? ⟨g, o + 1, none⟩ = some (.string (str s)) ∧ W.cell? ⟨g, o + 2, none⟩ = some (.slice none 0 0)) ∧ r.At S g (o + 3) W
  | .list i r, g, o, W => (W.cell? ⟨g, o, none⟩ = some (.bool true) ∧ W.cell? ⟨g, o + 1, none⟩ = some (.string ⟨#[]⟩) ∧
      ∃ v, W.cell? ⟨g, o + 2, none⟩ = some v ∧ ((v = .slice none 0 0 ∧ i = .nil) ∨ ∃ g' o' c, v = .slice (some ⟨g', o', none⟩) i.len c ∧ S g' ∧ i.len ≤ c ∧ i.At S g' o' W)) ∧ r.At S g (o + 3) W
/-- A slice of items. -/
def SlF (S : Nat → Prop) (f : Fo) (v : Value) (W : World) : Prop :=
  (v = .slice none 0 0 ∧ f = .nil) ∨ ∃ g o c, v = .slice (some ⟨g, o, none⟩) f.len c ∧ S g ∧ f.len ≤ c ∧ f.At S g o W
theorem Fo.At.kept {S : Nat → Prop} {W W' : World} (hb : ∀ k, S k → W'.heap[k]? = W.heap[k]?) : ∀ (f : Fo) (g o : Nat), S g → f.At S g o W → f.At S g o W' := by
  intro f
  induction f with
  | nil => intro g o _ _; trivial
  | text s r ih =>
    intro g o hg h
    have hc : ∀ j, W'.cell? ⟨g, j, none⟩ = W.cell? ⟨g, j, none⟩ := fun j => World.cell?_of_block (hb g hg)
    exact ⟨⟨(hc _).trans h.1.1, (hc _).trans h.1.2.1, (hc _).trans h.1.2.2⟩, ih g _ hg h.2⟩
  | list i r ihi ih =>
    intro g o hg h
    have hc : ∀ j, W'.cell? ⟨g, j, none⟩ = W.cell? ⟨g, j, none⟩ := fun j => World.cell?_of_block (hb g hg)
    obtain ⟨⟨h1, h2, v, h3, h4⟩, h5⟩ := h
    refine ⟨⟨(hc _).trans h1, (hc _).trans h2, v, (hc _).trans h3, ?_⟩, ih g _ hg h5⟩
    rcases h4 with h4 | ⟨g', o', c, e, hl, hn, ha⟩
    · exact Or.inl h4
    · exact Or.inr ⟨g', o', c, e, hl, hn, ihi g' o' hl ha⟩
theorem Fo.At.mono {S T : Nat → Prop} {W : World} (hm : ∀ k, S k → T k) : ∀ (f : Fo) (g o : Nat), f.At S g o W → f.At T g o W := by
  intro f
  induction f with
  | nil => intro g o _; trivial
  | text s r ih => intro g o h; exact ⟨h.1, ih g _ h.2⟩
  | list i r ihi ih =>
    intro g o h
    obtain ⟨⟨h1, h2, v, h3, h4⟩, h5⟩ := h
    refine ⟨⟨h1, h2, v, h3, ?_⟩, ih g _ h5⟩
    rcases h4 with h4 | ⟨g', o', c, e, hl, hn, ha⟩
    · exact Or.inl h4
    · exact Or.inr ⟨g', o', c, e, hm _ hl, hn, ihi g' o' ha⟩
theorem SlF.kept {S : Nat → Prop} {f : Fo} {v : Value} {W W' : World} (hb : ∀ k, S k → W'.heap[k]? = W.heap[k]?) (h : SlF S f v W) : SlF S f v W' := by
  rcases h with h | ⟨g, o, c, e, hl, hn, ha⟩
  · exact Or.inl h
  · exact Or.inr ⟨g, o, c, e, hl, hn, Fo.At.kept hb f g o hl ha⟩
theorem SlF.mono {S T : Nat → Prop} {f : Fo} {v : Value} {W : World} (hm : ∀ k, S k → T k) (h : SlF S f v W) : SlF T f v W := by
  rcases h with h | ⟨g, o, c, e, hl, hn, ha⟩
  · exact Or.inl h
  · exact Or.inr ⟨g, o, c, e, hm _ hl, hn, Fo.At.mono hm f g o ha⟩
/-- The cells of items. -/
def Cel (S : Nat → Prop) : Fo → List Value → World → Prop
  | .nil, xs, _ => xs = []
  | .text s r, xs, W => ∃ ys, xs = .bool false :: .string (str s) :: .slice none 0 0 :: ys ∧ Cel S r ys W
  | .list i r, xs, W => ∃ v ys, xs = .bool true :: .string ⟨#[]⟩ :: v :: ys ∧ SlF S i v W ∧ Cel S r ys W
theorem Cel.at {S : Nat → Prop} {W : World} {g : Nat} : ∀ (f : Fo) (xs : List Value) (o : Nat), (∀ j u, xs[j]? = some u → W.cell? ⟨g, o + j, none⟩ = some u) → Cel S f xs W → f.At S g o W := by
  intro f
  induction f with
  | nil => intro xs o _ _; trivial
  | text s r ih =>
    intro xs o hx h
    obtain ⟨ys, rfl, h⟩ := h
    exact ⟨⟨hx 0 _ rfl, hx 1 _ rfl, hx 2 _ rfl⟩, ih ys _ (fun j u hj => by rw [show o + 3 + j = o + (j + 3) by omega]; exact hx (j + 3) u (by simpa using hj)) h⟩
  | list i r _ ih =>
    intro xs o hx h
    obtain ⟨v, ys, rfl, hv, h⟩ := h
    refine ⟨⟨hx 0 _ rfl, hx 1 _ rfl, v, hx 2 _ rfl, hv⟩, ih ys _ (fun j u hj => by rw [show o + 3 + j = o + (j + 3) by omega]; exact hx (j + 3) u (by simpa using hj)) h⟩
theorem Cel.kept {S : Nat → Prop} {W W' : World} (hb : ∀ k, S k → W'.heap[k]? = W.heap[k]?) : ∀ (f : Fo) (xs : List Value), Cel S f xs W → Cel S f xs W' := by
  intro f
  induction f with
  | nil => intro xs h; exact h
  | text s r ih => intro xs h; obtain ⟨ys, e, h⟩ := h; exact ⟨ys, e, ih ys h⟩
  | list i r _ ih => intro xs h; obtain ⟨v, ys, e, hv, h⟩ := h; exact ⟨v, ys, e, hv.kept hb, ih ys h⟩
theorem Cel.mono {S T : Nat → Prop} {W : World} (hm : ∀ k, S k → T k) : ∀ (f : Fo) (xs : List Value), Cel S f xs W → Cel T f xs W := by
  intro f
  induction f with
  | nil => intro xs h; exact h
  | text s r ih => intro xs h; obtain ⟨ys, e, h⟩ := h; exact ⟨ys, e, ih ys h⟩
  | list i r _ ih => intro xs h; obtain ⟨v, ys, e, hv, h⟩ := h; exact ⟨v, ys, e, hv.mono hm, ih ys h⟩
theorem Cel.app {S : Nat → Prop} {W : World} {h : Fo} {zs : List Value} (hz : Cel S h zs W) : ∀ (f : Fo) (xs : List Value), Cel S f xs W → Cel S (f.app h) (xs ++ zs) W := by
  intro f
  induction f with
  | nil => intro xs hx; cases hx; exact hz
  | text s r ih => intro xs hx; obtain ⟨ys, rfl, hx⟩ := hx; exact ⟨ys ++ zs, rfl, ih ys hx⟩
  | list i r _ ih => intro xs hx; obtain ⟨v, ys, rfl, hv, hx⟩ := hx; exact ⟨v, ys ++ zs, rfl, hv, ih ys hx⟩
theorem Cel.length {S : Nat → Prop} {W : World} : ∀ (f : Fo) (xs : List Value), Cel S f xs W → xs.length = f.len * 3 := by
  intro f
  induction f with
  | nil => intro xs hx; cases hx; rfl
  | text s r ih => intro xs hx; obtain ⟨ys, rfl, hx⟩ := hx; simp [Fo.len, ih ys hx]; omega
  | list i r _ ih => intro xs hx; obtain ⟨v, ys, rfl, hv, hx⟩ := hx; simp [Fo.len, ih ys hx]; omega
/-- An item, as a value: a text or a list. -/
inductive It where
  | text (s : List UInt8) : It
  | list (i : Fo) : It
def It.fo : It → Fo → Fo
  | .text s, r => .text s r
  | .list i, r => .list i r
def It.enc : It → List UInt8
  | .text s => encT s
  | .list i => hd 192 i.enc.length ++ i.enc
def ItV (S : Nat → Prop) : It → Value → World → Prop
  | .text s, v, _ => v = .agg #[.bool false, .string (str s), .slice none 0 0]
  | .list i, v, W => ∃ u, v = .agg #[.bool true, .string ⟨#[]⟩, u] ∧ SlF S i u W
theorem ItV.kept {S : Nat → Prop} {x : It} {v : Value} {W W' : World} (hb : ∀ k, S k → W'.heap[k]? = W.heap[k]?) (h : ItV S x v W) : ItV S x v W' := by
  cases x with
  | text s => exact h
  | list i => obtain ⟨u, e, h⟩ := h; exact ⟨u, e, h.kept hb⟩
theorem ItV.mono {S T : Nat → Prop} {x : It} {v : Value} {W : World} (hm : ∀ k, S k → T k) (h : ItV S x v W) : ItV T x v W := by
  cases x with
  | text s => exact h
  | list i => obtain ⟨u, e, h⟩ := h; exact ⟨u, e, h.mono hm⟩
theorem SlF.form {S : Nat → Prop} {f : Fo} {v : Value} {W : World} (h : SlF S f v W) : ∃ a n c, v = .slice a n c := by
  rcases h with ⟨rfl, _⟩ | ⟨g, o, c, rfl, _⟩
  · exact ⟨_, _, _, rfl⟩
  · exact ⟨_, _, _, rfl⟩
theorem ItV.form {S : Nat → Prop} {x : It} {v : Value} {W : World} (h : ItV S x v W) : ∃ b s a n c, v = .agg #[.bool b, .string s, .slice a n c] := by
  cases x with
  | text s => exact ⟨_, _, _, _, _, h⟩
  | list i =>
    obtain ⟨u, e, h⟩ := h
    obtain ⟨a, n, c, rfl⟩ := h.form
    exact ⟨_, _, _, _, _, e⟩
/-- An item's three cells. -/
theorem ItV.cel {S : Nat → Prop} {x : It} {v : Value} {W : World} (h : ItV S x v W) : ∃ b s l, v = .agg #[.bool b, .string s, l] ∧ l.oneCell' = true ∧ Cel S (x.fo .nil) [.bool b, .string s, l] W := by
  cases x with
  | text s => exact ⟨false, str s, .slice none 0 0, h, rfl, [], rfl, rfl⟩
  | list i =>
    obtain ⟨u, e, h⟩ := h
    refine ⟨true, ⟨#[]⟩, u, e, ?_, u, [], rfl, h, rfl⟩
    rcases h with ⟨rfl, _⟩ | ⟨g, o, c, rfl, _⟩ <;> rfl
end Go.Proofs.Ytgaaalacoeainaa
