/- Merged: Qa, Qb, Qc, Qd. -/
import Derived.Test.YtekoaheiapddiaaGreatU05
import Derived.Test.YtekoaheiapddiaaGreatU02
import Derived.Test.YtekoaheiapddiaaGreatU03
import Derived.Maps.AppendAt
import Derived.BigQuiet
section
namespace Go.Proofs.YtekoaheiapddiaaGreat.Dz
open Go.RowKit

theorem str_app (a b : List UInt8) : str a ++ str b = str (a ++ b) := by
  apply ByteArray.ext
  simp [str]
theorem byteAt_str (l : List UInt8) (j : Nat) : byteAtK (str l) j = (l.getD j 0).toNat := by
  unfold byteAtK
  by_cases h : j < l.length
  · rw [dif_pos (by rw [str_size]; exact h)]
    simp [str, ByteArray.getElem_eq_getElem_data, h]
  · rw [dif_neg (by rw [str_size]; exact h)]
    simp [h]
theorem sum_app (a b : List UInt8) : moreN (sumN (str a)) (byteAtK (str b)) (str b).size = sumN (str (a ++ b)) := by
  have h := moreN_add (byteAtK (str (a ++ b))) a.length b.length 0
  have e1 : moreN 0 (byteAtK (str (a ++ b))) a.length = sumN (str a) := by
    unfold sumN moreN
    rw [str_size]
    congr 1
    exact cf_congr fun j hj => by rw [byteAt_str, byteAt_str]; simp [List.getElem?_append_left, hj]
  have e2 : ∀ x, moreN x (fun j => byteAtK (str (a ++ b)) (a.length + j)) b.length = moreN x (byteAtK (str b)) (str b).size := fun x => by
    unfold moreN
    rw [str_size]
    congr 1
    exact cf_congr fun j hj => by rw [byteAt_str, byteAt_str]; simp [List.getElem?_append_right]
  rw [e1, e2] at h
  rw [h]
  unfold sumN
  rw [str_size, List.length_append]

/-- A number's be4 bytes, the highest first; what bytes are as a number. -/
def be4 (n : Nat) : List UInt8 := [UInt8.ofNat (n / 16777216), UInt8.ofNat (n / 65536), UInt8.ofNat (n / 256), UInt8.ofNat n]
def num (s : List UInt8) : Nat := s.foldl (fun n b => n * 256 + b.toNat) 0
theorem be4_len (n : Nat) : (be4 n).length = 4 := rfl
theorem num_be4 {n : Nat} (h : n < 4294967296) : num (be4 n) = n := by
  simp only [num, be4, List.foldl, UInt8.toNat_ofNat']
  omega
theorem be4_num {s : List UInt8} (h : s.length = 4) : be4 (num s) = s := by
  match s, h with
  | [a, b, c, d], _ =>
    have ha := a.toNat_lt
    have hb := b.toNat_lt
    have hc := c.toNat_lt
    have hd := d.toNat_lt
    simp only [num, be4, List.foldl]
    have k : ∀ (u : UInt8) (n : Nat), n % 256 = u.toNat → UInt8.ofNat n = u := fun u n e => UInt8.toNat_inj.1 (by rw [UInt8.toNat_ofNat']; exact e)
    rw [k a _ (by omega), k b _ (by omega), k c _ (by omega), k d _ (by omega)]
theorem num_lt {s : List UInt8} (h : s.length = 4) : num s < 4294967296 := by
  match s, h with
  | [a, b, c, d], _ =>
    have ha := a.toNat_lt
    have hb := b.toNat_lt
    have hc := c.toNat_lt
    have hd := d.toNat_lt
    simp only [num, List.foldl]
    omega
theorem num_step (s : List UInt8) {k : Nat} (hk : k < s.length) : num (s.take (k + 1)) = num (s.take k) * 256 + byteAtK (str s) k := by
  rw [byteAt_str, List.take_add_one, List.getElem?_eq_getElem hk]
  simp only [num, Option.toList, List.foldl_append, List.foldl]
  simp [hk]

/-- The frame of a text. -/
def fr (t : List UInt8) : List UInt8 := be4 t.length ++ (be4 (sumN (str (be4 t.length ++ t))) ++ t)
theorem fr_len (t : List UInt8) : (fr t).length = t.length + 8 := by
  simp only [fr, List.length_append, be4_len]
  omega
theorem fr_drop (t : List UInt8) : (fr t).drop 8 = t := by
  simp [fr, be4]
theorem fr_take (t r : List UInt8) : (fr t ++ r).take 4 = be4 t.length := by
  simp [fr, be4]
theorem fr_text (t r : List UInt8) : ((fr t ++ r).drop 8).take t.length = t := by
  rw [List.drop_append_of_le_length (by rw [fr_len]; omega), fr_drop]
  simp
/-- The text of the frame at the front. -/
def firstP (s : List UInt8) : Option (List UInt8) :=
  if ((s.drop 8).take (num (s.take 4))).length ≤ 65536 ∧ (fr ((s.drop 8).take (num (s.take 4)))).isPrefixOf s = true then some ((s.drop 8).take (num (s.take 4))) else none
theorem firstP_some {s t : List UInt8} : firstP s = some t ↔ t.length ≤ 65536 ∧ ∃ r, s = fr t ++ r := by
  unfold firstP
  constructor
  · intro h
    split at h
    · rename_i hc
      injection h with h
      rw [h] at hc
      obtain ⟨r, hr⟩ := List.isPrefixOf_iff_prefix.1 hc.2
      exact ⟨hc.1, r, hr.symm⟩
    · cases h
  · rintro ⟨h1, r, rfl⟩
    rw [fr_take, num_be4 (by omega), fr_text]
    rw [if_pos ⟨h1, List.isPrefixOf_iff_prefix.2 ⟨r, rfl⟩⟩]
theorem firstP_fr {t : List UInt8} (h : t.length ≤ 65536) (r : List UInt8) : firstP (fr t ++ r) = some t := firstP_some.2 ⟨h, r, rfl⟩
theorem firstP_nil : firstP [] = none := by
  cases h : firstP [] with
  | none => rfl
  | some t =>
    obtain ⟨_, r, hr⟩ := firstP_some.1 h
    have := congrArg List.length hr
    rw [List.length_append, fr_len] at this
    rw [List.length_nil] at this
    omega
/-- The frames of texts, in a row. -/
def frs : List (List UInt8) → List UInt8
  | [] => []
  | t :: l => fr t ++ frs l
theorem frs_append (l m : List (List UInt8)) : frs (l ++ m) = frs l ++ frs m := by
  induction l with
  | nil => rfl
  | cons t l ih => simp [frs, ih]
theorem frs_one (t : List UInt8) : frs [t] = fr t := by simp [frs]
/-- s is these texts' frames, and a rest that begins with none. -/
structure Fs (s : List UInt8) (l : List (List UInt8)) (r : List UInt8) : Prop where
  eq : s = frs l ++ r
  all : ∀ t ∈ l, t.length ≤ 65536
  none : firstP r = none
theorem Fs.inj {s : List UInt8} {l m : List (List UInt8)} {r q : List UInt8} (h : Fs s l r) (k : Fs s m q) : l = m ∧ r = q := by
  induction l generalizing s m with
  | nil =>
    cases m with
    | nil => exact ⟨rfl, by rw [← List.nil_append r, ← List.nil_append q]; exact h.eq.symm.trans k.eq⟩
    | cons t m =>
      have h1 := h.none
      have h2 : r = fr t ++ (frs m ++ q) := by have := h.eq.symm.trans k.eq; simpa [frs] using this
      rw [h2, firstP_fr (k.all t (by simp))] at h1
      cases h1
  | cons t l ih =>
    have h2 : s = fr t ++ (frs l ++ r) := by have := h.eq; simpa [frs] using this
    cases m with
    | nil =>
      have h1 := k.none
      have h3 : q = s := by have := k.eq; simpa [frs] using this.symm
      rw [h3, h2, firstP_fr (h.all t (by simp))] at h1
      cases h1
    | cons u m =>
      have h3 : s = fr u ++ (frs m ++ q) := by have := k.eq; simpa [frs] using this
      have h4 : t = u := by
        have e1 := firstP_fr (h.all t (by simp)) (frs l ++ r)
        have e2 := firstP_fr (k.all u (by simp)) (frs m ++ q)
        rw [← h2] at e1; rw [← h3] at e2
        rw [e1] at e2
        injection e2
      subst h4
      obtain ⟨e1, e2⟩ := ih (s := frs l ++ r) (m := m) ⟨rfl, fun x hx => h.all x (by simp [hx]), h.none⟩ ⟨List.append_cancel_left (h2.symm.trans h3), fun x hx => k.all x (by simp [hx]), k.none⟩
      exact ⟨by rw [e1], e2⟩
theorem Fs.own {l : List (List UInt8)} (h : ∀ t ∈ l, t.length ≤ 65536) : Fs (frs l) l [] := ⟨by simp, h, firstP_nil⟩
theorem Fs.nil : Fs [] [] [] := ⟨rfl, by simp, firstP_nil⟩
end Go.Proofs.YtekoaheiapddiaaGreat.Dz
end
section
namespace Go.Proofs.YtekoaheiapddiaaGreat.Dz
open Go.RowKit

theorem conv4 (W : World) (a b c d : Nat) (ha : a < 256) (hb : b < 256) (hc : c < 256) (hd : d < 256) : (convert 218 9 (.slice (some ⟨W.heap.size, 0, none⟩) 4 4)).run Tryz.prog (W.alloc (.cells #[.int .u8 (a : Nat), .int .u8 (b : Nat), .int .u8 (c : Nat), .int .u8 (d : Nat)] 5)) =
    .ok (.string (str [UInt8.ofNat a, UInt8.ofNat b, UInt8.ofNat c, UInt8.ofNat d])) (W.alloc (.cells #[.int .u8 (a : Nat), .int .u8 (b : Nat), .int .u8 (c : Nat), .int .u8 (d : Nat)] 5)) := by
  have h := run_convert_bytes_back (P := Tryz.prog) (W.alloc (.cells #[.int .u8 (a : Nat), .int .u8 (b : Nat), .int .u8 (c : Nat), .int .u8 (d : Nat)] 5)) 218 9 5 ⟨W.heap.size, 0, none⟩ 4 [UInt8.ofNat a, UInt8.ofNat b, UInt8.ofNat c, UInt8.ofNat d] Tryz.underlying218 Tryz.underlying5 Tryz.underlying9 (fun j hj => by
    have e : (⟨W.heap.size, 0, none⟩ : Addr).add j = ⟨W.heap.size, j, none⟩ := by unfold Addr.add; split <;> simp_all
    rw [e, cell_of (heap_alloc_new _ _)]
    match j, hj with
    | 0, _ => simp [UInt8.toNat_ofNat_of_lt' ha]
    | 1, _ => simp [UInt8.toNat_ofNat_of_lt' hb]
    | 2, _ => simp [UInt8.toNat_ofNat_of_lt' hc]
    | 3, _ => simp [UInt8.toNat_ofNat_of_lt' hd])
  exact h
theorem ofNat_mod (n : Nat) : UInt8.ofNat (n % 256) = UInt8.ofNat n := UInt8.toNat_inj.1 (by rw [UInt8.toNat_ofNat', UInt8.toNat_ofNat']; omega)
theorem conv_be4 (n : Nat) (hn : n < 4294967296) (W : World) : (convert 218 9 (.slice (some ⟨W.heap.size, 0, none⟩) 4 4)).run Tryz.prog (W.alloc (.cells #[.int .u8 ((n : Int) / 16777216), .int .u8 ((n : Int) / 65536 % 256), .int .u8 ((n : Int) / 256 % 256), .int .u8 ((n : Int) % 256)] 5)) =
    .ok (.string (str (be4 n))) (W.alloc (.cells #[.int .u8 ((n : Int) / 16777216), .int .u8 ((n : Int) / 65536 % 256), .int .u8 ((n : Int) / 256 % 256), .int .u8 ((n : Int) % 256)] 5)) := by
  have h := conv4 W (n / 16777216) (n / 65536 % 256) (n / 256 % 256) (n % 256) (by omega) (by omega) (by omega) (by omega)
  simp only [ofNat_mod] at h
  exact h
set_option maxRecDepth 100000 in
theorem be4_c (n : Nat) (hn : n < 4294967296) (w : World) : Calls Tryz.prog 227 #[.int .u32 n] w fun e w' => e = .returned (.string (str (be4 n))) ∧ Below w.heap.size w w' := by
  have hc := conv_be4 n hn
  generalize str (be4 n) = z at *
  go_enter Tryz.func227, Tryz.ntmps227
  go_wp2_with fail
  go_ret
  exact ⟨rfl, (Below.refl _ _).alloc (Nat.le_refl _) _⟩
theorem shl8 (x b : Nat) (hx : x < 16777216) (hb : b < 256) : Go.bits .or .u64 (IntKind.u64.wrap ((x : Int) * 256)) (IntKind.u64.wrap (b : Int)) = ((x * 256 + b : Nat) : Int) := by
  have e : IntKind.u64.wrap ((x : Int) * 256) = ((x * 256 : Nat) : Int) := by rw [IntKind.wrap_u64]; omega
  have e2 : IntKind.u64.wrap (b : Int) = (b : Int) := by rw [IntKind.wrap_u64]; omega
  rw [e, e2, u64_or_nat _ _ (by omega) (by omega)]
  congr 1
  have := Nat.shiftLeft_add_eq_or_of_lt (i := 8) (b := b) hb x
  rw [Nat.shiftLeft_eq] at this
  exact this.symm
set_option maxRecDepth 100000 in
set_option maxHeartbeats 1000000 in
theorem number_c (s : List UInt8) (hs : s.length = 4) (w : World) : Calls Tryz.prog 177 #[.string (str s)] w fun e w' => e = .returned (.int .u64 (num s : Nat)) ∧ w' = w := by
  have HX := Lib.hid (fun (k : Nat) (hk : k < 4) (W : World) => index_i64K (str s) (k : Int) k (by rw [str_size, hs]; exact hk) rfl W)
  have HB := Lib.hid (fun k => byteAt_ltK (str s) k)
  have HN := Lib.hid (fun k (hk : k < 4) => num_step s (k := k) (by rw [hs]; exact hk))
  have HL := Lib.hid (fun k (hk : k < 4) => show num (s.take k) < 16777216 by
    match s, hs, k, hk with
    | [a, b, c, d], _, 0, _ => simp [num]
    | [a, b, c, d], _, 1, _ => have := a.toNat_lt; simp only [num, List.take, List.foldl]; omega
    | [a, b, c, d], _, 2, _ => have := a.toNat_lt; have := b.toNat_lt; simp only [num, List.take, List.foldl]; omega
    | [a, b, c, d], _, 3, _ => have := a.toNat_lt; have := b.toNat_lt; have := c.toNat_lt; simp only [num, List.take, List.foldl]; omega)
  have HE := Lib.hid (show num (s.take 4) = num s by rw [List.take_of_length_le (by omega)])
  have hz := str_size s
  rw [hs] at hz
  clear hs
  go_enter Tryz.func177, Tryz.ntmps177
  go_wp2_with fail
  go_loop [3, 7] (fun c i => ∃ k : Nat, k ≤ 4 ∧ i = .int .i64 k ∧ c = .int .u64 (num (s.take k) : Nat)) (fun _ i => 4 - (intOf i).toNat)
  case atStart => exact ⟨0, by omega, rfl, rfl⟩
  case round =>
    obtain ⟨k, hk, rfl, rfl⟩ := hrel
    by_cases hlt : k < 4
    · have hx := HX.out k hlt
      have h8 := shl8 _ _ (HL.out k hlt) (HB.out k)
      have HY := Lib.hid (HN.out k hlt)
      have hlti : (k : Int) < 4 := by omega
      clear HX HB HN HL HE
      generalize num (s.take k) = x at *
      generalize byteAtK (str s) k = b at *
      go_wp2_with fail
      go_round
      case rel => exact ⟨k + 1, by omega, by go_num, by rw [HY.out]; simp⟩
      case measure => simp [intOf]; omega
    · obtain rfl : k = 4 := by omega
      rw [HE.out]
      clear HX HB HN HL HE
      go_wp2_with fail
      go_ret
      exact ⟨rfl, rfl⟩
theorem str_toList (l : List UInt8) : (str l).toList = l := by rw [ByteArray.toList_eq, str_list]
theorem be4_size (n : Nat) : (str (be4 n)).size = 4 := by rw [str_size, be4_len]
set_option maxRecDepth 100000 in
set_option maxHeartbeats 1000000 in
theorem frame_c (s : List UInt8) (hs : s.length ≤ 65536) (w : World) : Calls Tryz.prog 178 #[.string (str s)] w fun e w' => e = .returned (.tuple #[.string (str (fr s)), .bool true]) ∧ Below w.heap.size w w' := by
  have hsz := str_size s
  have C1 := Lib.hid (fun W => be4_c s.length (by omega) W)
  have C2 := Lib.hid (fun W => sum_c (s := str (be4 s.length)) (by rw [be4_size]; unfold maxLen; omega) W)
  have C3 := Lib.hid (fun W => more_c (sumN_lt (str (be4 s.length))) (s := str s) (by rw [str_size]; unfold maxLen; omega) W)
  rw [sum_app] at C3
  have C4 := Lib.hid (fun W => be4_c (sumN (str (be4 s.length ++ s))) (sumN_lt _) W)
  have HF := Lib.hid (show str (be4 s.length) ++ str (be4 (sumN (str (be4 s.length ++ s)))) ++ str s = str (fr s) by rw [str_app, str_app, fr, List.append_assoc])
  have z1 := be4_size s.length
  have z2 := be4_size (sumN (str (be4 s.length ++ s)))
  generalize str (fr s) = out at *
  generalize str (be4 (sumN (str (be4 s.length ++ s)))) = t2 at *
  generalize sumN (str (be4 s.length ++ s)) = k2 at *
  generalize sumN (str (be4 s.length)) = k1 at *
  generalize str (be4 s.length) = t1 at *
  generalize str s = t0 at *
  generalize s.length = n at *
  go_enter Tryz.func178, Tryz.ntmps178
  go_wp2_with fail
  refine (C1.out _).mono ?_
  rintro e w1 ⟨rfl, h1⟩
  have B1 := Lib.hid h1; clear h1 C1
  go_wp2_with fail
  refine (C2.out _).mono ?_
  rintro e w2 ⟨rfl, h1⟩
  have B2 := Lib.hid (B1.out.trans (h1.mono B1.out.size)); clear h1 C2 B1
  go_wp2_with fail
  refine (C3.out _).mono ?_
  rintro e w3 ⟨rfl, h1⟩
  have B3 := Lib.hid (B2.out.trans (h1.mono B2.out.size)); clear h1 C3 B2
  go_wp2_with fail
  refine (C4.out _).mono ?_
  rintro e w4 ⟨rfl, h1⟩
  have B4 := Lib.hid (B3.out.trans (h1.mono B3.out.size)); clear h1 C4 B3
  go_wp2_with fail
  go_ret2
  exact ⟨by rw [← HF.out]; rfl, B4.out⟩
set_option maxRecDepth 100000 in
theorem frame_long (s : ByteArray) (hs : 65536 < s.size) (w : World) : Calls Tryz.prog 178 #[.string s] w fun e w' => e = .returned (.tuple #[.string (str []), .bool false]) ∧ w' = w := by
  go_enter Tryz.func178, Tryz.ntmps178
  go_wp2_with fail
  go_ret2
  exact ⟨rfl, rfl⟩
set_option maxRecDepth 100000 in
set_option maxHeartbeats 1000000 in
theorem prefix_c (a b : List UInt8) (w : World) : Calls Tryz.prog 179 #[.string (str a), .string (str b)] w fun e w' => e = .returned (.bool (b.isPrefixOf a)) ∧ w' = w := by
  have hza := str_size a
  have hzb := str_size b
  have HI : Calls Tryz.prog 230 #[.string (str a), .string (str b)] w fun e w' => e = .returned (.bool (b.isPrefixOf a)) ∧ w' = w := by
    by_cases hl : b.length ≤ a.length
    · have hc := cut_to a b.length hl
      have HE := Lib.hid (show ((str (a.take b.length)).toList == (str b).toList) = b.isPrefixOf a by
        rw [str_toList, str_toList, Bool.eq_iff_iff, beq_iff_eq, List.isPrefixOf_iff_prefix, List.prefix_iff_eq_take]
        exact ⟨fun h => h.symm, fun h => h.symm⟩)
      generalize str (a.take b.length) = z at *
      generalize b.isPrefixOf a = q at *
      generalize str a = sa at *
      generalize str b = sb at *
      generalize a.length = na at *
      generalize b.length = nb at *
      have hli : (nb : Int) ≤ (na : Int) := by omega
      go_enter Tryz.func230, Tryz.ntmps230
      go_wp2_with fail
      go_ret
      exact ⟨by rw [← HE.out]; rfl, rfl⟩
    · have HE := Lib.hid (show false = b.isPrefixOf a by
        symm
        rw [Bool.eq_false_iff]
        intro h
        exact hl (List.isPrefixOf_iff_prefix.1 h).length_le)
      generalize b.isPrefixOf a = q at *
      generalize str a = sa at *
      generalize str b = sb at *
      generalize a.length = na at *
      generalize b.length = nb at *
      have hli : ¬ (nb : Int) ≤ (na : Int) := by omega
      go_enter Tryz.func230, Tryz.ntmps230
      go_wp2_with fail
      go_ret
      exact ⟨by rw [← HE.out]; rfl, rfl⟩
  have H := Lib.hid HI
  clear HI
  generalize b.isPrefixOf a = q at *
  generalize str a = sa at *
  generalize str b = sb at *
  go_enter Tryz.func179, Tryz.ntmps179
  go_wp2_with fail
  refine H.out.mono ?_
  rintro e w1 ⟨rfl, rfl⟩
  go_wp2_with fail
  go_ret
  exact ⟨rfl, rfl⟩
theorem str_drop (s : List UInt8) (n : Nat) : (str s).extract n (str s).size = str (s.drop n) := by
  apply ByteArray.ext
  simp [str, ByteArray.data_extract, ByteArray.size]
  rw [List.take_of_length_le (by simp)]
/-- What first answers. -/
def firstV : Option (List UInt8) → Value
  | none => .tuple #[.string (str []), .bool false]
  | some t => .tuple #[.string (str t), .bool true]
set_option maxRecDepth 100000 in
set_option maxHeartbeats 1000000 in
theorem first_c (s : List UInt8) (hs : s.length ≤ maxLen) (w : World) : Calls Tryz.prog 143 #[.string (str s)] w fun e w' => e = .returned (firstV (firstP s)) ∧ Below w.heap.size w w' := by
  have hz := str_size s
  by_cases h8 : s.length < 8
  · have hp : firstP s = none := by
      cases h : firstP s with
      | none => rfl
      | some t =>
        obtain ⟨_, r, rfl⟩ := firstP_some.1 h
        rw [List.length_append, fr_len] at h8
        omega
    rw [hp]
    have h8i : (s.length : Int) < 8 := by omega
    generalize str s = sa at *
    generalize s.length = n at *
    go_enter Tryz.func143, Tryz.ntmps143
    go_wp2_with fail
    go_ret2
    exact ⟨rfl, Below.refl _ _⟩
  · have h4 := str_take s 4
    have h4l : (s.take 4).length = 4 := by rw [List.length_take]; omega
    have C1 := Lib.hid (fun W => number_c (s.take 4) h4l W)
    have hd8 := str_drop s 8
    rw [str_size] at hd8
    have hl8 : (s.drop 8).length = s.length - 8 := List.length_drop
    have HP := Lib.hid (show firstP s = if ((s.drop 8).take (num (s.take 4))).length ≤ 65536 ∧ (fr ((s.drop 8).take (num (s.take 4)))).isPrefixOf s = true then some ((s.drop 8).take (num (s.take 4))) else none from rfl)
    have hnum := num_lt h4l
    by_cases hb : s.length - 8 < num (s.take 4)
    · have hp : firstP s = none := by
        cases h : firstP s with
        | none => rfl
        | some t =>
          obtain ⟨h1, r, rfl⟩ := firstP_some.1 h
          rw [fr_take, num_be4 (by omega), List.length_append, fr_len] at hb
          omega
      rw [hp]
      have hbi : (s.length : Int) - 8 < (num (s.take 4) : Int) := by omega
      have hn8 : ¬ (s.length : Int) < 8 := by omega
      have hwr : IntKind.u64.wrap ((s.length : Int) - 8) = (s.length : Int) - 8 := by rw [IntKind.wrap_u64]; unfold maxLen at hs; omega
      have hns : (s.length : Int) ≤ 9223372036854775807 := by unfold maxLen at hs; omega
      clear HP hd8 hl8 h4l hnum hb hp hs
      generalize str (s.take 4) = s4 at *
      generalize num (s.take 4) = m at *
      generalize str s = sa at *
      generalize s.length = n at *
      go_enter Tryz.func143, Tryz.ntmps143
      go_wp2_with fail
      refine (C1.out _).mono ?_
      rintro e w1 ⟨rfl, rfl⟩
      go_wp2_with fail
      go_ret2
      exact ⟨rfl, Below.refl _ _⟩
    · have hbi : ¬ (s.length : Int) - 8 < (num (s.take 4) : Int) := by omega
      have hn8 : ¬ (s.length : Int) < 8 := by omega
      have hwr : IntKind.u64.wrap ((s.length : Int) - 8) = (s.length : Int) - 8 := by rw [IntKind.wrap_u64]; unfold maxLen at hs; omega
      have hns : (s.length : Int) ≤ 9223372036854775807 := by unfold maxLen at hs; omega
      have hcm := str_take (s.drop 8) (num (s.take 4))
      have h8z := str_size (s.drop 8)
      rw [hl8] at h8z
      have hmi : (num (s.take 4) : Int) ≤ ((s.length - 8 : Nat) : Int) := by omega
      have htl : ((s.drop 8).take (num (s.take 4))).length = num (s.take 4) := by rw [List.length_take]; omega
      generalize (s.drop 8).take (num (s.take 4)) = t at *
      by_cases ht : t.length ≤ 65536
      · have C2 := Lib.hid (fun W => frame_c t ht W)
        have C3 := Lib.hid (fun W => prefix_c s (fr t) W)
        have hd := str_drop (fr t) 8
        rw [fr_drop, str_size, fr_len] at hd
        have hfl := str_size (fr t)
        rw [fr_len] at hfl
        by_cases hpr : (fr t).isPrefixOf s = true
        · have hp : firstP s = some t := by rw [HP.out, if_pos ⟨ht, hpr⟩]
          rw [hp]
          rw [hpr] at C3
          clear HP hl8 h4l hnum hb hp hs htl hpr hwr
          generalize str (s.take 4) = s4 at *
          generalize num (s.take 4) = m at *
          generalize str (s.drop 8) = s8 at *
          generalize str (fr t) = f at *
          generalize hst : str t = st at *
          have HT := Lib.hid hst; clear hst
          generalize str s = sa at *
          generalize s.length = n at *
          go_enter Tryz.func143, Tryz.ntmps143
          go_wp2_with fail
          refine (C1.out _).mono ?_
          rintro e w1 ⟨rfl, rfl⟩
          go_wp2_with fail
          refine (C2.out _).mono ?_
          rintro e w2 ⟨rfl, h1⟩
          have B2 := Lib.hid h1; clear h1 C2 C1
          go_wp2_with fail
          refine (C3.out _).mono ?_
          rintro e w3 ⟨rfl, rfl⟩
          go_wp2_with fail
          go_ret2
          exact ⟨by rw [firstV, HT.out]; rfl, B2.out⟩
        · have hp : firstP s = none := by rw [HP.out, if_neg (fun h => hpr h.2)]
          rw [hp]
          rw [Bool.not_eq_true] at hpr
          rw [hpr] at C3
          clear HP hl8 h4l hnum hb hp hs htl hpr hwr
          generalize str (s.take 4) = s4 at *
          generalize num (s.take 4) = m at *
          generalize str (s.drop 8) = s8 at *
          generalize str (fr t) = f at *
          generalize str t = st at *
          generalize str s = sa at *
          generalize s.length = n at *
          go_enter Tryz.func143, Tryz.ntmps143
          go_wp2_with fail
          refine (C1.out _).mono ?_
          rintro e w1 ⟨rfl, rfl⟩
          go_wp2_with fail
          refine (C2.out _).mono ?_
          rintro e w2 ⟨rfl, h1⟩
          have B2 := Lib.hid h1; clear h1 C2 C1
          go_wp2_with fail
          refine (C3.out _).mono ?_
          rintro e w3 ⟨rfl, rfl⟩
          go_wp2_with fail
          go_ret2
          exact ⟨rfl, B2.out⟩
      · have C2 := Lib.hid (fun W => frame_long (str t) (by rw [str_size]; omega) W)
        have hp : firstP s = none := by rw [HP.out, if_neg (fun h => ht h.1)]
        rw [hp]
        clear HP hl8 h4l hnum hb hp hs htl hwr
        generalize str (s.take 4) = s4 at *
        generalize num (s.take 4) = m at *
        generalize str (s.drop 8) = s8 at *
        generalize str t = st at *
        generalize str s = sa at *
        generalize s.length = n at *
        go_enter Tryz.func143, Tryz.ntmps143
        go_wp2_with fail
        refine (C1.out _).mono ?_
        rintro e w1 ⟨rfl, rfl⟩
        go_wp2_with fail
        refine (C2.out _).mono ?_
        rintro e w2 ⟨rfl, rfl⟩
        go_wp2_with fail
        go_ret2
        exact ⟨rfl, Below.refl _ _⟩
end Go.Proofs.YtekoaheiapddiaaGreat.Dz
end
section
namespace Go.Proofs.YtekoaheiapddiaaGreat.Dz
open Go.RowKit
/-- One element of one cell more. -/
theorem wpList_append_one {ops : Array Oper} {rest : List Oper} {o : Oper} {a : Act} {Q : Exit → Act → World → Prop} {W : World} (hgd : o.guard = none) (s x : Operand) (ty e : TypeId)
    (ho : o.op = .call { callee := .builtin .append, args := #[s, x], argTypes := #[ty, ty] }) (hu : Tryz.prog.underlying ty = some (.slice e)) (z : Value) (bytes : Nat)
    (hinfo : (Tryz.prog.info? e).map (fun i => (i.zero, i.size, i.bytes)) = some (some z, 1, bytes)) (hz1 : z.cells.size = 1) (hby : bytes ≤ 48)
    (B : Nat) (v : Value) (n : Nat) (xs : List Value) (hs : a.eval s = v) (hown : W.ownsRow B e 1 v n xs) (q : Nat) (u : Value) (h1 : u.oneCell' = true) (hx : a.eval x = .slice (some ⟨q, 0, none⟩) 1 1) (hz : W.heap[q]? = some (.cells #[u] e (0, 0)))
    (hB : B ≤ W.heap.size) (hn : n < 1000000000)
    (hK : ∀ v' W', W'.ownsRow B e 1 v' (n + 1) (xs ++ [u]) → W.grownBy W' v.ownBlock → (v'.ownBlock = v.ownBlock ∨ v'.ownBlock = some W.heap.size) → wpList Tryz.prog ops Q rest (a.put o.dst v') W') : wpList Tryz.prog ops Q (o :: rest) a W := by
  obtain ⟨i0, hi, hz0, hzz, hz2⟩ := info_parts hinfo
  refine wpList_append_own_at W hgd s x ty ho B e i0 z 1 bytes hu hi hz0 hzz hz2 hz1 (by omega) v n xs hs hown ⟨q, 0, none⟩ 1 1 [u] hx rfl ?_ ?_ (by unfold maxLen; omega) ?_ hB fun v' W' h2 h3 _ h5 => hK v' W' h2 h3 h5
  · intro j u' hj
    have e : (⟨q, 0, none⟩ : Addr).add j = ⟨q, j, none⟩ := by unfold Addr.add; split <;> simp_all
    rw [e, cell_of hz]
    simpa using hj
  · intro u' hu'
    obtain rfl : u' = u := by simpa using hu'
    exact h1
  · exact Nat.le_trans (Nat.mul_le_mul_left (n + 1) hby) (by omega)

abbrev encS (t : List UInt8) : Value := .string (str t)
theorem infoS : (Tryz.prog.info? 9).map (fun i => (i.zero, i.size, i.bytes)) = some (some (.string ⟨#[]⟩), 1, 16) := by kernel_rfl
/-- A slice of texts, made from block B on. -/
def OwnS (B : Nat) (l : List (List UInt8)) (v : Value) (W : World) : Prop := W.ownsRow B 9 1 v l.length (l.map encS)
theorem OwnS.form {B : Nat} {l : List (List UInt8)} {v : Value} {W : World} (h : OwnS B l v W) : ∃ a c, v = .slice a l.length c := own_any h
theorem OwnS.lt {B : Nat} {l : List (List UInt8)} {v : Value} {W : World} (h : OwnS B l v W) {k : Nat} (hk : v.ownBlock = some k) : B ≤ k ∧ k < W.heap.size := World.ownsRow.lt h k hk
theorem OwnS.keep {B : Nat} {l : List (List UInt8)} {v : Value} {W W' : World} (h : OwnS B l v W) (hb : Below W.heap.size W W') : OwnS B l v W' := own_keep h fun k hk => hb.block k (h.lt hk).2
theorem below_grown {B : Nat} {W W' : World} {row : Option Nat} (h : W.grownBy W' row) (hr : ∀ k, row = some k → B ≤ k) (hB : B ≤ W.heap.size) : Below B W W' :=
  ⟨h.os, h.tape, h.output, h.size, fun k hk => h.block k (Nat.lt_of_lt_of_le hk hB) (fun e => by have := hr k e.symm; omega)⟩
/-- How much frames take. -/
theorem frs_len (l : List (List UInt8)) : 8 * l.length ≤ (frs l).length := by
  induction l with
  | nil => simp [frs]
  | cons t l ih => simp only [frs, List.length_append, fr_len, List.length_cons]; omega
set_option maxRecDepth 100000 in
set_option maxHeartbeats 1000000 in
theorem frames_c (s : List UInt8) (hs : s.length ≤ 1000000000) (w : World) : Calls Tryz.prog 102 #[.string (str s)] w fun e w' =>
    ∃ l r v, e = .returned (.tuple #[v, .int .i64 ((frs l).length : Nat)]) ∧ Fs s l r ∧ OwnS w.heap.size l v w' ∧ Below w.heap.size w w' := by
  have HX := Lib.hid hs
  have hsz := str_size s
  go_enter Tryz.func102, Tryz.ntmps102
  go_wp2_with fail
  go_loopw [2, 3] (fun v i wr => ∃ l r, s = frs l ++ r ∧ (∀ t ∈ l, t.length ≤ 65536) ∧ i = .int .i64 ((frs l).length : Nat) ∧ OwnS w.heap.size l v wr ∧ Below w.heap.size w wr) (fun _ i _ => s.length - (intOf i).toNat)
  case atStart => exact ⟨[], s, rfl, by simp, rfl, World.ownsRow_nil _ _ _ _, Below.refl _ _⟩
  case round =>
    obtain ⟨l, r, he, hall, rfl, hown, hb⟩ := hrel
    obtain ⟨va, vc, rfl⟩ := hown.form
    have hlen : s.length = (frs l).length + r.length := by rw [he, List.length_append]
    have hd : s.drop (frs l).length = r := by rw [he, List.drop_left]
    have hcut := str_drop s (frs l).length
    rw [hd, hsz] at hcut
    have hle : ((frs l).length : Int) ≤ (s.length : Int) := by omega
    have C1 := Lib.hid (fun W => first_c r (by have := HX.out; unfold maxLen; omega) W)
    have hln := frs_len l
    cases hf : firstP r with
    | none =>
      rw [hf, firstV] at C1
      have HR := Lib.hid (show Fs s l r ∧ OwnS w.heap.size l (.slice va l.length vc) wr ∧ Below w.heap.size w wr from ⟨⟨he, hall, hf⟩, hown, hb⟩)
      have HG := Lib.hid hcut
      clear he hall hown hb hf hlen hs hln hd hcut
      generalize str r = sr at *
      generalize str s = ss at *
      generalize s.length = n at *
      have hcut := HG.out
      go_wp2_with fail
      refine (C1.out _).mono ?_
      rintro e w1 ⟨rfl, h1⟩
      have B1 := Lib.hid h1; clear h1 C1
      go_wp2_with fail
      go_ret2
      exact ⟨l, r, _, rfl, HR.out.1, HR.out.2.1.keep B1.out, HR.out.2.2.trans (B1.out.mono HR.out.2.2.size)⟩
    | some t =>
      rw [hf, firstV] at C1
      obtain ⟨ht, r', hr'⟩ := firstP_some.1 hf
      have hrl : r.length = t.length + 8 + r'.length := by rw [hr', List.length_append, fr_len]
      have HN := Lib.hid (show s = frs (l ++ [t]) ++ r' ∧ (∀ u ∈ l ++ [t], u.length ≤ 65536) ∧ (frs (l ++ [t])).length = (frs l).length + (8 + t.length) from
        ⟨by rw [he, hr', frs_append, frs_one, List.append_assoc], fun u hu => by
          rcases List.mem_append.1 hu with h | h
          · exact hall u h
          · rw [List.mem_singleton.1 h]; exact ht, by rw [frs_append, frs_one, List.length_append, fr_len]; omega⟩)
      have HR := Lib.hid (show OwnS w.heap.size l (.slice va l.length vc) wr ∧ Below w.heap.size w wr from ⟨hown, hb⟩)
      have hst := str_size t
      have HL := Lib.hid (show (frs l).length + (8 + t.length) ≤ s.length ∧ l.length < 1000000000 from ⟨by omega, by have := HX.out; omega⟩)
      have hw : IntKind.i64.wrap (((frs l).length : Int) + (8 + (t.length : Int))) = ((frs l).length : Int) + (8 + (t.length : Int)) := IntWalk.i64_in _ (by have := HL.out; have := HX.out; omega)
      have hw2 : IntKind.i64.wrap (8 + (t.length : Int)) = 8 + (t.length : Int) := IntWalk.i64_in _ (by have := HL.out; have := HX.out; omega)
      have HG := Lib.hid hcut
      clear he hall hown hb hf hlen hs hln hd hcut hr' hrl ht
      generalize hsr : str r = sr at *
      generalize hst' : str t = st at *
      have HT := Lib.hid hst'
      clear hsr hst'
      generalize str s = ss at *
      generalize s.length = n at *
      have hcut := HG.out
      go_wp2_with fail
      refine (C1.out _).mono ?_
      rintro e w1 ⟨rfl, h1⟩
      have B1 := Lib.hid h1; clear h1 C1
      have HO := Lib.hid ((HR.out.1.keep B1.out).keep ((Below.refl _ _).alloc (Nat.le_refl _) (.cells #[.string st] 9)))
      have HB := Lib.hid ((HR.out.2.trans (B1.out.mono HR.out.2.size)).alloc (Nat.le_trans HR.out.2.size B1.out.size) (.cells #[.string st] 9))
      have HZ := Lib.hid (heap_alloc_new w1 (.cells #[.string st] 9))
      have HW := Lib.hid (show w.heap.size ≤ (w1.alloc (.cells #[.string st] 9)).heap.size by rw [alloc_size]; exact Nat.le_succ_of_le (Nat.le_trans HR.out.2.size B1.out.size))
      go_wp2_with (at_builtin; refine wpList_append_one rfl _ _ 38 9 rfl Tryz.underlying38 _ 16 infoS rfl (by omega) w.heap.size (.slice va l.length vc) l.length (l.map encS) (by rfl) HO.out w1.heap.size (.string st) rfl (by rfl) HZ.out HW.out HL.out.2 ?_; intro v2 W2 hown2 hgr _hbl; have HV := Lib.hid (And.intro hown2 hgr); clear hown2 hgr _hbl)
      have e2 := HN.out.2.2
      refine ⟨⟨l ++ [t], r', HN.out.1, HN.out.2.1, by rw [e2]; simp, ?_, ?_⟩, ?_⟩
      · unfold OwnS
        rw [List.length_append, List.map_append]
        have h := HV.out.1
        rw [← HT.out] at h
        exact h
      · exact HB.out.trans (below_grown HV.out.2 (fun k hk => (HO.out.lt hk).1) HW.out)
      · have := HL.out.1
        simp only [intOf]
        omega
end Go.Proofs.YtekoaheiapddiaaGreat.Dz
end
section
namespace Go.Proofs.YtekoaheiapddiaaGreat.Dz
open Go.RowKit
section
variable {w : World} {B : Nat} {e : TypeId} {g cap n : Nat} {xs : List Value}
theorem own_form {v : Value} (h : w.ownsRow B e 1 v (n + 1) xs) : ∃ g cap, v = .slice (some ⟨g, 0, none⟩) (n + 1) cap ∧ B ≤ g ∧ g < w.heap.size ∧ n + 1 ≤ cap := by
  rcases h.2 with ⟨_, h0⟩ | ⟨g, cap, cur, rfl, hb, hg, hn, _⟩
  · omega
  · exact ⟨g, cap, rfl, hb, lt_of hg, hn⟩
theorem own_cell {v : Value} (h : w.ownsRow B e 1 v n xs) (hv : v = .slice (some ⟨g, 0, none⟩) n cap) (j : Nat) (u : Value) (hj : xs[j]? = some u) : w.cell? ⟨g, j, none⟩ = some u := by
  have h1 := h.cells (g := g) (by rw [hv]; rfl) j u hj
  have e : (⟨g, 0, none⟩ : Addr).add j = ⟨g, j, none⟩ := by unfold Addr.add; split <;> simp_all
  rwa [e] at h1
end
theorem OwnS.cell {B : Nat} {l : List (List UInt8)} {g n c : Nat} {W : World} (h : OwnS B l (.slice (some ⟨g, 0, none⟩) n c) W) (hn : l.length = n) {k : Nat} {t : List UInt8} (hk : l[k]? = some t) : W.cell? ⟨g, k, none⟩ = some (.string (str t)) := by
  subst hn
  exact own_cell h rfl k _ (by rw [List.getElem?_map, hk]; rfl)
theorem OwnS.ptr {B n : Nat} {l : List (List UInt8)} {v : Value} {W : World} (h : OwnS B l v W) (hn : l.length = n + 1) : ∃ g c, v = .slice (some ⟨g, 0, none⟩) (n + 1) c ∧ B ≤ g ∧ g < W.heap.size ∧ n + 1 ≤ c := by
  unfold OwnS at h
  rw [hn] at h
  exact own_form h
end Go.Proofs.YtekoaheiapddiaaGreat.Dz
end
