/- The small functions of package rlp: Text, bare, Number, head, headOf. -/
import Derived.Test.YtgaaalacoeainaaLa
namespace Go.Proofs.Ytgaaalacoeainaa
open Go.RowKit

theorem heap_set3 {w : World} {b : Nat} {v0 v1 v2 : Value} {t : TypeId} (h : w.heap[b]? = some (.cells #[v0, v1, v2] t (0, 0))) (u0 u1 u2 : Value) :
    (((w.setCell ⟨b, 0, none⟩ u0).setCell ⟨b, 1, none⟩ u1).setCell ⟨b, 2, none⟩ u2).heap[b]? = some (.cells #[u0, u1, u2] t (0, 0)) := by
  have e := heap_setCell_same _ _ 2 _ _ u2 (heap_setCell_same _ _ 1 _ _ u1 (heap_setCell_same _ _ 0 _ _ u0 h))
  simpa using e
theorem below_set3 {B b : Nat} {a w : World} (h : Below B a w) (hb : B ≤ b) (u0 u1 u2 : Value) : Below B a (((w.setCell ⟨b, 0, none⟩ u0).setCell ⟨b, 1, none⟩ u1).setCell ⟨b, 2, none⟩ u2) :=
  ((h.setCell (by simpa using hb) _).setCell (by simpa using hb) _).setCell (by simpa using hb) _
theorem cells3 {w : World} {b : Nat} {v0 v1 v2 : Value} {t : TypeId} (h : w.heap[b]? = some (.cells #[v0, v1, v2] t (0, 0))) :
    (w.cell? ⟨b, 0, none⟩ = some v0 ∧ w.cell? ⟨b, 1, none⟩ = some v1 ∧ w.cell? ⟨b, 2, none⟩ = some v2) ∧
    (w.frozen? ⟨b, 0, none⟩ = false ∧ w.frozen? ⟨b, 1, none⟩ = false ∧ w.frozen? ⟨b, 2, none⟩ = false) :=
  ⟨⟨by rw [cell_of h 0]; rfl, by rw [cell_of h 1]; rfl, by rw [cell_of h 2]; rfl⟩, free_of h 0, free_of h 1, free_of h 2⟩
/-- A text, as an item. -/
def textV (s : ByteArray) : Value := .agg #[.bool false, .string s, .slice none 0 0]
set_option maxRecDepth 100000 in
theorem text_c (s : ByteArray) (w : World) : Calls Try.prog 23 #[.string s] w fun e w' => e = .returned (textV s) ∧ Below w.heap.size w w' := by
  go_enter Try.func23, Try.ntmps23
  go_wp2_with fail
  exact bodyPost_ret (results_cell_row Try.results23 _ _ _ _ _ _ _ rfl (heap_alloc_new _ _) Try.underlying27 rfl (by kernel_rfl)) rfl ⟨rfl, (Below.refl _ _).alloc (Nat.le_refl _) _⟩
theorem bareL_ne {s : List UInt8} (h : s.length ≠ 1) : bareL s = false := by
  rcases s with _ | ⟨b, _ | ⟨c, r⟩⟩
  · rfl
  · simp at h
  · rfl
theorem bare_c (s : List UInt8) (w : World) : Calls Try.prog 52 #[.string (str s)] w fun e w' => e = .returned (.bool (bareL s)) ∧ w' = w := by
  go_enter Try.func52, Try.ntmps52
  go_wp2_with fail
  · have h1 : s.length = 1 := by rw [← str_size]; omega
    obtain ⟨b, rfl⟩ := List.length_eq_one_iff.1 h1
    go_ret
    refine ⟨?_, rfl⟩
    rw [str_get]
    simp [bareL]
    omega
  · have h1 : s.length ≠ 1 := by rw [← str_size]; omega
    go_ret
    refine ⟨?_, rfl⟩
    rw [bareL_ne h1]
    rfl
/-- One byte as a text. -/
theorem conv1 (W : World) (x : Nat) (hx : x < 256) : (convert 42 9 (.slice (some ⟨W.heap.size, 0, none⟩) 1 1)).run Try.prog (W.alloc (.cells #[.int .u8 (x : Nat)] 5)) = .ok (.string (str [UInt8.ofNat x])) (W.alloc (.cells #[.int .u8 (x : Nat)] 5)) := by
  have h := Lib.run_convert_whole (P := Try.prog) (W.alloc (.cells #[.int .u8 (x : Nat)] 5)) 42 5 9 Try.underlying42 Try.underlying5 Try.underlying9 W.heap.size 0 (str [UInt8.ofNat x]) (by
    intro i hi
    rw [str_size] at hi
    obtain rfl : i = 0 := by simpa using hi
    rw [str_get, cell_of (heap_alloc_new _ _)]
    simp [Nat.mod_eq_of_lt hx]) 1
  rwa [str_size] at h
def zbytes (n : Nat) (l : List UInt8) : Array Value := (List.replicate n (Value.int .u8 0) ++ l.map fun b => Value.int .u8 (b.toNat : Nat)).toArray
theorem zbytes_size (n : Nat) (l : List UInt8) : (zbytes n l).size = n + l.length := by simp [zbytes]
theorem zbytes_set (n : Nat) (l : List UInt8) (b : UInt8) : (zbytes (n + 1) l).setIfInBounds n (.int .u8 (b.toNat : Nat)) = zbytes n (b :: l) := by
  apply Array.ext_getElem?
  intro j
  rw [Array.getElem?_setIfInBounds]
  unfold zbytes
  simp only [List.size_toArray, List.getElem?_toArray, List.length_append, List.length_replicate, List.length_map]
  by_cases hj : n = j
  · subst hj
    rw [if_pos rfl, if_pos (by omega), List.getElem?_append_right (by simp)]
    simp
  · rw [if_neg hj]
    by_cases h2 : j < n
    · rw [List.getElem?_append_left (by simp; omega), List.getElem?_append_left (by simpa using h2)]
      simp [h2, show j < n + 1 by omega]
    · rw [List.getElem?_append_right (by simp; omega), List.getElem?_append_right (by simp; omega)]
      obtain ⟨k, rfl⟩ : ∃ k, j = n + 1 + k := ⟨j - (n + 1), by omega⟩
      rw [List.length_replicate, List.length_replicate, show n + 1 + k - n = k + 1 by omega, show n + 1 + k - (n + 1) = k by omega]
      simp
theorem zbytes_get (n : Nat) (l : List UInt8) (j : Nat) (h : j < l.length) : (zbytes n l)[n + j]? = some (.int .u8 ((l[j]'h).toNat : Nat)) := by
  unfold zbytes
  rw [List.getElem?_toArray, List.getElem?_append_right (by simp)]
  simp [h]
/-- The end of a row of bytes as a text. -/
theorem convEnd (W : World) (b n : Nat) (l : List UInt8) (t : TypeId) (h : W.heap[b]? = some (.cells (zbytes n l) t (0, 0))) (cap : Nat) : (convert 42 9 (.slice (some ⟨b, n, none⟩) l.length cap)).run Try.prog W = .ok (.string (str l)) W := by
  have h := Lib.run_convert_whole (P := Try.prog) W 42 5 9 Try.underlying42 Try.underlying5 Try.underlying9 b n (str l) (by
    intro i hi
    rw [str_get, cell_of h]
    rw [str_size] at hi
    exact zbytes_get n l i hi) cap
  rwa [str_size] at h
theorem convEnd' (W : World) (b n o : Nat) (l : List UInt8) (t : TypeId) (h : W.heap[b]? = some (.cells (zbytes n l) t (0, 0))) (ho : o = n ∨ l = []) (cap : Nat) : (convert 42 9 (.slice (some ⟨b, o, none⟩) l.length cap)).run Try.prog W = .ok (.string (str l)) W := by
  rcases ho with rfl | rfl
  · exact convEnd W b o l t h cap
  · exact Lib.run_convert_whole (P := Try.prog) W 42 5 9 Try.underlying42 Try.underlying5 Try.underlying9 b o (str []) (fun i hi => absurd hi (by simp [str_size])) cap
/-- What Number knows at the head of a round. -/
structure NumR (w : World) (n m : Nat) (acc : List UInt8) (W : World) : Prop where
  below : Below w.heap.size w W
  size : W.heap.size = w.heap.size + 2
  row0 : W.heap[w.heap.size]? = some (.cells #[.bool false, .string ⟨#[]⟩, .slice none 0 0] 27 (0, 0))
  row : W.heap[w.heap.size + 1]? = some (.cells (zbytes (8 - acc.length) acc) 74 (0, 0))
  eq : num n = num m ++ acc
set_option maxRecDepth 100000 in
set_option maxHeartbeats 2000000 in
theorem number_c (n : Nat) (hn : n < M64) (w : World) : Calls Try.prog 19 #[.int .u64 n] w fun e w' => e = .returned (textV (str (num n))) ∧ Below w.heap.size w w' := by
  have HL := Lib.hid (num_length_le (n := n) 8 (by unfold M64 at hn; exact hn))
  have HN := Lib.hid hn; clear hn
  go_enter Try.func19, Try.ntmps19
  go_wp2_with fail
  go_loopw [0, 4] (fun a i wr => ∃ (m : Nat) (acc : List UInt8), a = .int .u64 m ∧ i = .int .i64 ((8 - acc.length : Nat) : Int) ∧ m < M64 ∧ NumR w n m acc wr) (fun a _ _ => (intOf a).toNat)
  case atStart =>
    refine ⟨n, [], rfl, rfl, HN.out, ⟨((Below.refl _ _).alloc (Nat.le_refl _) _).alloc (by simp) _, by simp, ?_, ?_, by simp⟩⟩
    · exact heap_alloc2_old w _ _
    · exact heap_alloc2_new w _ _
  case round =>
    obtain ⟨m, acc, rfl, rfl, hm, hS⟩ := hrel
    by_cases hz : m = 0
    · subst hz
      have ha : num n = acc := by have h := hS.eq; rw [num_zero] at h; simpa using h
      have hl : acc.length ≤ 8 := by rw [← ha]; exact HL.out
      obtain ⟨j, hj, hj2⟩ : ∃ j, 8 - acc.length = j ∧ acc.length = 8 - j := ⟨8 - acc.length, rfl, by omega⟩
      have hj8 : j ≤ 8 := by omega
      obtain ⟨o, ho⟩ : ∃ o, o = if 8 = j then 0 else j := ⟨_, rfl⟩
      have hcv := convEnd' wr (w.heap.size + 1) (8 - acc.length) o acc _ hS.row (by
        by_cases e : 8 = j
        · exact Or.inr (List.eq_nil_of_length_eq_zero (by omega))
        · rw [if_neg e] at ho; exact Or.inl (by omega))
      rw [hj2] at hcv
      rw [hj]
      have hsl : (Instr.sliceAt 74 (.pointer (some ⟨w.heap.size + 1, 0, none⟩)) (some (.int .i64 (j : Nat))) none none).run Try.prog wr = .ok (.slice (some ⟨w.heap.size + 1, o, none⟩) (8 - j) (8 - j)) wr := by
        have h8 : Try.prog.arrayLen 74 = 8 := by kernel_rfl
        have he : (sizeOf (Try.prog.elem 74)).run Try.prog wr = .ok 1 wr := by kernel_rfl
        have h := run_sliceAt_array_l wr 74 ⟨w.heap.size + 1, 0, none⟩ (by rw [Try.underlying74]; kernel_rfl) .i64 (j : Int) (by omega) (by rw [h8]; omega)
        rw [h, he, h8]
        simp only [Result.andThen_ok, slicedAt, Int.toNat_natCast, Nat.mul_one]
        by_cases e : 8 = j
        · rw [if_pos e] at ho ⊢; rw [ho]
        · rw [if_neg e] at ho ⊢; rw [ho]; simp [Addr.add]; omega
      clear ho
      have hK := Lib.hid (And.intro hS.row0 hS.size)
      have HB := Lib.hid hS.below
      clear hS hj hj2 hl
      rw [← ha] at hcv
      clear ha hm
      go_wp2_with (go_at_call 23; refine (text_c _ _).mono ?_)
      rintro e w1 ⟨rfl, hb1⟩
      have h0 := (hb1.block _ (by have := hK.out.2; omega)).trans hK.out.1
      obtain ⟨⟨c0, c1, c2⟩, z0, z1, z2⟩ := cells3 h0
      have H0 := Lib.hid h0
      have H1 := Lib.hid hb1
      clear h0 hb1
      generalize hs : str (num n) = s at *
      have HE := Lib.hid hs
      clear hs
      unfold textV
      go_wp2_with fail
      exact bodyPost_ret (results_cell_row Try.results19 _ _ _ _ _ _ _ rfl (heap_set3 H0.out _ _ _) Try.underlying27 rfl (by kernel_rfl)) rfl
        ⟨by rw [HE.out]; rfl, below_set3 (HB.out.trans (H1.out.mono (by have := HB.out.size; omega))) (Nat.le_refl _) _ _ _⟩
    · have hmi : (0 : Int) < (m : Int) := by omega
      have hne := num_pos hz
      have hl : acc.length < 8 := by
        have h := congrArg List.length hS.eq
        have h2 := HL.out
        have h3 := num_length_pos hz
        rw [List.length_append] at h
        omega
      have HS := Lib.hid hS; clear hS
      obtain ⟨k, hk⟩ : ∃ k, 8 - acc.length = k + 1 := ⟨7 - acc.length, by omega⟩
      have c0 := cell_of HS.out.row k
      have z0 := free_of HS.out.row k
      have hkb : k < 8 := by omega
      have hk2 := Lib.hid (show acc.length + k = 7 by omega)
      have HX := Lib.hid (show NumR w n (m / 256) (UInt8.ofNat (m % 256) :: acc) (wr.setCell ⟨w.heap.size + 1, k, none⟩ (.int .u8 ((m % 256 : Nat) : Int))) from by
        obtain ⟨hb, hs, h0, hr, he⟩ := HS.out
        refine ⟨hb.setCell (p := ⟨w.heap.size + 1, k, none⟩) (by simp) _, by simpa [World.setCell] using hs, (Below.heap_setCell _ _ _ _ (by simp)).trans h0, ?_, ?_⟩
        · rw [hk] at hr
          have h := heap_setCell_same _ _ k _ _ (.int .u8 ((m % 256 : Nat) : Int)) hr
          have e : ((UInt8.ofNat (m % 256)).toNat : Int) = ((m % 256 : Nat) : Int) := by rw [b8 (Nat.mod_lt _ (by decide))]
          rw [← e, zbytes_set] at h
          rw [← e, show 8 - (UInt8.ofNat (m % 256) :: acc).length = k by simp; omega]
          exact h
        · rw [he, hne]; simp)
      rw [hk] at *
      clear hk
      rw [show (zbytes (k + 1) acc)[k]? = some (.int .u8 0) from by unfold zbytes; rw [List.getElem?_toArray, List.getElem?_append_left (by simp)]; simp] at c0
      have bk : (0 : Int) ≤ (k : Int) ∧ (k : Int) < 8 := by omega
      go_wp2_with fail
      refine ⟨⟨m / 256, UInt8.ofNat (m % 256) :: acc, by simp, ?_, by omega, by simpa using HX.out⟩, by simp [intOf]; omega⟩
      have := hk2.out
      simp
      omega
theorem field_text (s : ByteArray) (w : World) : (Instr.field 27 (.agg #[.bool false, .string s, .slice none 0 0]) 1).run Try.prog w = .ok (.string s) w := by
  simp [Instr.field, run_underlying Try.underlying27]
  kernel_rfl
set_option maxRecDepth 100000 in
theorem hd_c (k n : Nat) (hk : k = 128 ∨ k = 192) (hn : n < 9223372036854775808) (w : World) : Calls Try.prog 46 #[.int .u8 k, .int .i64 n] w fun e w' => e = .returned (.string (str (hd k n))) ∧ Below w.heap.size w w' := by
  by_cases h55 : n ≤ 55
  · have hi : (n : Int) ≤ 55 := by omega
    have hcv := conv1 w (k + n) (by omega)
    rw [show ((k + n : Nat) : Int) = (k : Int) + (n : Int) by omega] at hcv
    generalize hs1 : str [UInt8.ofNat (k + n)] = s1 at *
    have HS1 := Lib.hid hs1; clear hs1
    go_enter Try.func46, Try.ntmps46
    go_wp2_with fail
    go_ret
    exact ⟨by unfold hd; rw [if_pos h55, HS1.out]; rfl, (Below.refl _ _).alloc (Nat.le_refl _) _⟩
  · have hi : ¬ (n : Int) ≤ 55 := by omega
    have HL := num_length_le (n := n) 8 (Nat.lt_trans hn (by decide))
    have HM := Lib.hid (show n < M64 by unfold M64; omega)
    have HE := Lib.hid (show hd k n = UInt8.ofNat (k + 55 + (num n).length) :: num n from if_neg h55)
    go_enter Try.func46, Try.ntmps46
    go_wp2_with (go_at_call 19; refine (number_c n HM.out _).mono ?_; rintro e w1 ⟨rfl, hb⟩; have HB := Lib.hid hb; clear hb; (generalize num n = l at *); have hsz := str_size l; have hcv := conv1 w1 (k + 55 + l.length) (by omega); (generalize hls : str l = s at *); have HS := Lib.hid hls; clear hls; (rw [← hsz] at hcv HL HE); (rw [show ((k + 55 + s.size : Nat) : Int) = (k : Int) + 55 + (s.size : Int) by omega] at hcv); (generalize hs1 : str [UInt8.ofNat (k + 55 + s.size)] = s1 at *); have HS1 := Lib.hid hs1; clear hs1 hsz; have hbig : ¬ 9223372036854775807 < s1.size + s.size := (by have h := str_size [UInt8.ofNat (k + 55 + s.size)]; rw [HS1.out] at h; simp at h; omega); have hfl := field_text s; unfold textV)
    go_ret
    refine ⟨?_, HB.out.alloc HB.out.size _⟩
    rw [HE.out, ← HS1.out, ← HS.out, str_append]
    simp [HS.out]
theorem headOf_c (s : List UInt8) (hs : s.length < 9223372036854775808) (w : World) : Calls Try.prog 45 #[.string (str s)] w fun e w' => e = .returned (.string (str (hdT s))) ∧ Below w.heap.size w w' := by
  have hsz := str_size s
  have HE := Lib.hid (show hdT s = if bareL s then [] else hd 128 s.length from rfl)
  have HC := Lib.hid (fun W => bare_c s W)
  have HD := Lib.hid (fun W => hd_c 128 s.length (Or.inl rfl) hs W)
  rw [← hsz] at HE HD
  generalize str s = x at *
  generalize bareL s = b at *
  clear hsz hs
  go_enter Try.func45, Try.ntmps45
  cases b
  · go_wp2_with (first | (go_at_call 52; refine (HC.out _).mono ?_; rintro e w1 ⟨rfl, rfl⟩) | (go_at_call 46; refine (HD.out _).mono ?_; rintro e w1 ⟨rfl, hb⟩; have HB := Lib.hid hb; clear hb))
    go_ret
    exact ⟨by rw [HE.out]; rfl, HB.out⟩
  · go_wp2_with (first | (go_at_call 52; refine (HC.out _).mono ?_; rintro e w1 ⟨rfl, rfl⟩))
    go_ret
    exact ⟨by rw [HE.out]; rfl, Below.refl _ _⟩
end Go.Proofs.Ytgaaalacoeainaa
