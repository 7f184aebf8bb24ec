/- Merged: Lb, Lh, Lt, Li. -/
import Derived.Test.YtekoaheiapddiaaGreatU08
import Derived.Maps.AppendAt
import Derived.Test.YtekoaheiapddiaaGreatU01
import Derived.Lib.SliceRun
import Derived.StillTailTactics
section
namespace Go.Proofs.YtekoaheiapddiaaGreat
open Go.RowKit

theorem heap_set3 {w : World} {b : Nat} {v0 v1 v2 : Value} {t : TypeId} (h : w.heap[b]? = some (.cells #[v0, v1, v2] t (0, 0))) (u0 u1 u2 : Value) :
    (((w.setCell ⟨b, 0, none⟩ u0).setCell ⟨b, 1, none⟩ u1).setCell ⟨b, 2, none⟩ u2).heap[b]? = some (.cells #[u0, u1, u2] t (0, 0)) := by
  have e := heap_setCell_same _ _ 2 _ _ u2 (heap_setCell_same _ _ 1 _ _ u1 (heap_setCell_same _ _ 0 _ _ u0 h))
  simpa using e
theorem below_set3 {B b : Nat} {a w : World} (h : Below B a w) (hb : B ≤ b) (u0 u1 u2 : Value) : Below B a (((w.setCell ⟨b, 0, none⟩ u0).setCell ⟨b, 1, none⟩ u1).setCell ⟨b, 2, none⟩ u2) :=
  ((h.setCell (by simpa using hb) _).setCell (by simpa using hb) _).setCell (by simpa using hb) _
theorem cells3 {w : World} {b : Nat} {v0 v1 v2 : Value} {t : TypeId} (h : w.heap[b]? = some (.cells #[v0, v1, v2] t (0, 0))) :
    (w.cell? ⟨b, 0, none⟩ = some v0 ∧ w.cell? ⟨b, 1, none⟩ = some v1 ∧ w.cell? ⟨b, 2, none⟩ = some v2) ∧
    (w.frozen? ⟨b, 0, none⟩ = false ∧ w.frozen? ⟨b, 1, none⟩ = false ∧ w.frozen? ⟨b, 2, none⟩ = false) :=
  ⟨⟨by rw [cell_of h 0]; rfl, by rw [cell_of h 1]; rfl, by rw [cell_of h 2]; rfl⟩, free_of h 0, free_of h 1, free_of h 2⟩
/-- A text, as an item. -/
def textV (s : ByteArray) : Value := .agg #[.bool false, .string s, .slice none 0 0]
set_option maxRecDepth 100000 in
theorem text_c (s : ByteArray) (w : World) : Calls Tryz.prog 182 #[.string s] w fun e w' => e = .returned (textV s) ∧ Below w.heap.size w w' := by
  go_enter Tryz.func182, Tryz.ntmps182
  go_wp2_with fail
  exact bodyPost_ret (results_cell_row Tryz.results182 _ _ _ _ _ _ _ rfl (heap_alloc_new _ _) Tryz.underlying198 rfl (by kernel_rfl)) rfl ⟨rfl, (Below.refl _ _).alloc (Nat.le_refl _) _⟩
theorem bareL_ne {s : List UInt8} (h : s.length ≠ 1) : bareL s = false := by
  rcases s with _ | ⟨b, _ | ⟨c, r⟩⟩
  · rfl
  · simp at h
  · rfl
theorem bare_c (s : List UInt8) (w : World) : Calls Tryz.prog 181 #[.string (str s)] w fun e w' => e = .returned (.bool (bareL s)) ∧ w' = w := by
  go_enter Tryz.func181, Tryz.ntmps181
  go_wp2_with fail
  · have h1 : s.length = 1 := by rw [← str_size]; omega
    obtain ⟨b, rfl⟩ := List.length_eq_one_iff.1 h1
    go_ret
    refine ⟨?_, rfl⟩
    rw [str_get]
    simp [bareL]
    omega
  · have h1 : s.length ≠ 1 := by rw [← str_size]; omega
    go_ret
    refine ⟨?_, rfl⟩
    rw [bareL_ne h1]
    rfl
/-- One byte as a text. -/
theorem conv1 (W : World) (x : Nat) (hx : x < 256) : (convert 218 9 (.slice (some ⟨W.heap.size, 0, none⟩) 1 1)).run Tryz.prog (W.alloc (.cells #[.int .u8 (x : Nat)] 5)) = .ok (.string (str [UInt8.ofNat x])) (W.alloc (.cells #[.int .u8 (x : Nat)] 5)) := by
  have h := Lib.run_convert_whole (P := Tryz.prog) (W.alloc (.cells #[.int .u8 (x : Nat)] 5)) 218 5 9 Tryz.underlying218 Tryz.underlying5 Tryz.underlying9 W.heap.size 0 (str [UInt8.ofNat x]) (by
    intro i hi
    rw [str_size] at hi
    obtain rfl : i = 0 := by simpa using hi
    rw [str_get, cell_of (heap_alloc_new _ _)]
    simp [Nat.mod_eq_of_lt hx]) 1
  rwa [str_size] at h
def zbytes (n : Nat) (l : List UInt8) : Array Value := (List.replicate n (Value.int .u8 0) ++ l.map fun b => Value.int .u8 (b.toNat : Nat)).toArray
theorem zbytes_set (n : Nat) (l : List UInt8) (b : UInt8) : (zbytes (n + 1) l).setIfInBounds n (.int .u8 (b.toNat : Nat)) = zbytes n (b :: l) := by
  apply Array.ext_getElem?
  intro j
  rw [Array.getElem?_setIfInBounds]
  unfold zbytes
  simp only [List.size_toArray, List.getElem?_toArray, List.length_append, List.length_replicate, List.length_map]
  by_cases hj : n = j
  · subst hj
    rw [if_pos rfl, if_pos (by omega), List.getElem?_append_right (by simp)]
    simp
  · rw [if_neg hj]
    by_cases h2 : j < n
    · rw [List.getElem?_append_left (by simp; omega), List.getElem?_append_left (by simpa using h2)]
      simp [h2, show j < n + 1 by omega]
    · rw [List.getElem?_append_right (by simp; omega), List.getElem?_append_right (by simp; omega)]
      obtain ⟨k, rfl⟩ : ∃ k, j = n + 1 + k := ⟨j - (n + 1), by omega⟩
      rw [List.length_replicate, List.length_replicate, show n + 1 + k - n = k + 1 by omega, show n + 1 + k - (n + 1) = k by omega]
      simp
theorem zbytes_get (n : Nat) (l : List UInt8) (j : Nat) (h : j < l.length) : (zbytes n l)[n + j]? = some (.int .u8 ((l[j]'h).toNat : Nat)) := by
  unfold zbytes
  rw [List.getElem?_toArray, List.getElem?_append_right (by simp)]
  simp [h]
/-- The end of a row of bytes as a text. -/
theorem convEnd (W : World) (b n : Nat) (l : List UInt8) (t : TypeId) (h : W.heap[b]? = some (.cells (zbytes n l) t (0, 0))) (cap : Nat) : (convert 218 9 (.slice (some ⟨b, n, none⟩) l.length cap)).run Tryz.prog W = .ok (.string (str l)) W := by
  have h := Lib.run_convert_whole (P := Tryz.prog) W 218 5 9 Tryz.underlying218 Tryz.underlying5 Tryz.underlying9 b n (str l) (by
    intro i hi
    rw [str_get, cell_of h]
    rw [str_size] at hi
    exact zbytes_get n l i hi) cap
  rwa [str_size] at h
theorem convEnd' (W : World) (b n o : Nat) (l : List UInt8) (t : TypeId) (h : W.heap[b]? = some (.cells (zbytes n l) t (0, 0))) (ho : o = n ∨ l = []) (cap : Nat) : (convert 218 9 (.slice (some ⟨b, o, none⟩) l.length cap)).run Tryz.prog W = .ok (.string (str l)) W := by
  rcases ho with rfl | rfl
  · exact convEnd W b o l t h cap
  · exact Lib.run_convert_whole (P := Tryz.prog) W 218 5 9 Tryz.underlying218 Tryz.underlying5 Tryz.underlying9 b o (str []) (fun i hi => absurd hi (by simp [str_size])) cap
/-- What Number knows at the head of a round. -/
structure NumR (w : World) (n m : Nat) (acc : List UInt8) (W : World) : Prop where
  below : Below w.heap.size w W
  size : W.heap.size = w.heap.size + 2
  row0 : W.heap[w.heap.size]? = some (.cells #[.bool false, .string ⟨#[]⟩, .slice none 0 0] 198 (0, 0))
  row : W.heap[w.heap.size + 1]? = some (.cells (zbytes (8 - acc.length) acc) 318 (0, 0))
  eq : num n = num m ++ acc
set_option maxRecDepth 100000 in
set_option maxHeartbeats 2000000 in
theorem number_c (n : Nat) (hn : n < M64) (w : World) : Calls Tryz.prog 190 #[.int .u64 n] w fun e w' => e = .returned (textV (str (num n))) ∧ Below w.heap.size w w' := by
  have HL := Lib.hid (num_length_le (n := n) 8 (by unfold M64 at hn; exact hn))
  have HN := Lib.hid hn; clear hn
  go_enter Tryz.func190, Tryz.ntmps190
  go_wp2_with fail
  go_loopw [0, 4] (fun a i wr => ∃ (m : Nat) (acc : List UInt8), a = .int .u64 m ∧ i = .int .i64 ((8 - acc.length : Nat) : Int) ∧ m < M64 ∧ NumR w n m acc wr) (fun a _ _ => (intOf a).toNat)
  case atStart =>
    refine ⟨n, [], rfl, rfl, HN.out, ⟨((Below.refl _ _).alloc (Nat.le_refl _) _).alloc (by simp) _, by simp, ?_, ?_, by simp⟩⟩
    · exact heap_alloc2_old w _ _
    · exact heap_alloc2_new w _ _
  case round =>
    obtain ⟨m, acc, rfl, rfl, hm, hS⟩ := hrel
    by_cases hz : m = 0
    · subst hz
      have ha : num n = acc := by have h := hS.eq; rw [num_zero] at h; simpa using h
      have hl : acc.length ≤ 8 := by rw [← ha]; exact HL.out
      obtain ⟨j, hj, hj2⟩ : ∃ j, 8 - acc.length = j ∧ acc.length = 8 - j := ⟨8 - acc.length, rfl, by omega⟩
      have hj8 : j ≤ 8 := by omega
      obtain ⟨o, ho⟩ : ∃ o, o = if 8 = j then 0 else j := ⟨_, rfl⟩
      have hcv := convEnd' wr (w.heap.size + 1) (8 - acc.length) o acc _ hS.row (by
        by_cases e : 8 = j
        · exact Or.inr (List.eq_nil_of_length_eq_zero (by omega))
        · rw [if_neg e] at ho; exact Or.inl (by omega))
      rw [hj2] at hcv
      rw [hj]
      have hsl : (Instr.sliceAt 318 (.pointer (some ⟨w.heap.size + 1, 0, none⟩)) (some (.int .i64 (j : Nat))) none none).run Tryz.prog wr = .ok (.slice (some ⟨w.heap.size + 1, o, none⟩) (8 - j) (8 - j)) wr := by
        have h8 : Tryz.prog.arrayLen 318 = 8 := by kernel_rfl
        have he : (sizeOf (Tryz.prog.elem 318)).run Tryz.prog wr = .ok 1 wr := by kernel_rfl
        have h := run_sliceAt_array_l wr 318 ⟨w.heap.size + 1, 0, none⟩ (by rw [Tryz.underlying318]; kernel_rfl) .i64 (j : Int) (by omega) (by rw [h8]; omega)
        rw [h, he, h8]
        simp only [Result.andThen_ok, slicedAt, Int.toNat_natCast, Nat.mul_one]
        by_cases e : 8 = j
        · rw [if_pos e] at ho ⊢; rw [ho]
        · rw [if_neg e] at ho ⊢; rw [ho]; simp [Addr.add]; omega
      clear ho
      have hK := Lib.hid (And.intro hS.row0 hS.size)
      have HB := Lib.hid hS.below
      clear hS hj hj2 hl
      rw [← ha] at hcv
      clear ha hm
      go_wp2_with (go_at_call 182; refine (text_c _ _).mono ?_)
      rintro e w1 ⟨rfl, hb1⟩
      have h0 := (hb1.block _ (by have := hK.out.2; omega)).trans hK.out.1
      obtain ⟨⟨c0, c1, c2⟩, z0, z1, z2⟩ := cells3 h0
      have H0 := Lib.hid h0
      have H1 := Lib.hid hb1
      clear h0 hb1
      generalize hs : str (num n) = s at *
      have HE := Lib.hid hs
      clear hs
      unfold textV
      go_wp2_with fail
      exact bodyPost_ret (results_cell_row Tryz.results190 _ _ _ _ _ _ _ rfl (heap_set3 H0.out _ _ _) Tryz.underlying198 rfl (by kernel_rfl)) rfl
        ⟨by rw [HE.out]; rfl, below_set3 (HB.out.trans (H1.out.mono (by have := HB.out.size; omega))) (Nat.le_refl _) _ _ _⟩
    · have hmi : (0 : Int) < (m : Int) := by omega
      have hne := num_pos hz
      have hl : acc.length < 8 := by
        have h := congrArg List.length hS.eq
        have h2 := HL.out
        have h3 := num_length_pos hz
        rw [List.length_append] at h
        omega
      have HS := Lib.hid hS; clear hS
      obtain ⟨k, hk⟩ : ∃ k, 8 - acc.length = k + 1 := ⟨7 - acc.length, by omega⟩
      have c0 := cell_of HS.out.row k
      have z0 := free_of HS.out.row k
      have hkb : k < 8 := by omega
      have hk2 := Lib.hid (show acc.length + k = 7 by omega)
      have HX := Lib.hid (show NumR w n (m / 256) (UInt8.ofNat (m % 256) :: acc) (wr.setCell ⟨w.heap.size + 1, k, none⟩ (.int .u8 ((m % 256 : Nat) : Int))) from by
        obtain ⟨hb, hs, h0, hr, he⟩ := HS.out
        refine ⟨hb.setCell (p := ⟨w.heap.size + 1, k, none⟩) (by simp) _, by simpa [World.setCell] using hs, (Below.heap_setCell _ _ _ _ (by simp)).trans h0, ?_, ?_⟩
        · rw [hk] at hr
          have h := heap_setCell_same _ _ k _ _ (.int .u8 ((m % 256 : Nat) : Int)) hr
          have e : ((UInt8.ofNat (m % 256)).toNat : Int) = ((m % 256 : Nat) : Int) := by rw [b8 (Nat.mod_lt _ (by decide))]
          rw [← e, zbytes_set] at h
          rw [← e, show 8 - (UInt8.ofNat (m % 256) :: acc).length = k by simp; omega]
          exact h
        · rw [he, hne]; simp)
      rw [hk] at *
      clear hk
      rw [show (zbytes (k + 1) acc)[k]? = some (.int .u8 0) from by unfold zbytes; rw [List.getElem?_toArray, List.getElem?_append_left (by simp)]; simp] at c0
      have bk : (0 : Int) ≤ (k : Int) ∧ (k : Int) < 8 := by omega
      go_wp2_with fail
      refine ⟨⟨m / 256, UInt8.ofNat (m % 256) :: acc, by simp, ?_, by omega, by simpa using HX.out⟩, by simp [intOf]; omega⟩
      have := hk2.out
      simp
      omega
theorem field_text (s : ByteArray) (w : World) : (Instr.field 198 (.agg #[.bool false, .string s, .slice none 0 0]) 1).run Tryz.prog w = .ok (.string s) w := by
  simp [Instr.field, run_underlying Tryz.underlying198]
  kernel_rfl
set_option maxRecDepth 100000 in
theorem hd_c (k n : Nat) (hk : k = 128 ∨ k = 192) (hn : n < 9223372036854775808) (w : World) : Calls Tryz.prog 273 #[.int .u8 k, .int .i64 n] w fun e w' => e = .returned (.string (str (hd k n))) ∧ Below w.heap.size w w' := by
  by_cases h55 : n ≤ 55
  · have hi : (n : Int) ≤ 55 := by omega
    have hcv := conv1 w (k + n) (by omega)
    rw [show ((k + n : Nat) : Int) = (k : Int) + (n : Int) by omega] at hcv
    generalize hs1 : str [UInt8.ofNat (k + n)] = s1 at *
    have HS1 := Lib.hid hs1; clear hs1
    go_enter Tryz.func273, Tryz.ntmps273
    go_wp2_with fail
    go_ret
    exact ⟨by unfold hd; rw [if_pos h55, HS1.out]; rfl, (Below.refl _ _).alloc (Nat.le_refl _) _⟩
  · have hi : ¬ (n : Int) ≤ 55 := by omega
    have HL := num_length_le (n := n) 8 (Nat.lt_trans hn (by decide))
    have HM := Lib.hid (show n < M64 by unfold M64; omega)
    have HE := Lib.hid (show hd k n = UInt8.ofNat (k + 55 + (num n).length) :: num n from if_neg h55)
    go_enter Tryz.func273, Tryz.ntmps273
    go_wp2_with (go_at_call 190; refine (number_c n HM.out _).mono ?_; rintro e w1 ⟨rfl, hb⟩; have HB := Lib.hid hb; clear hb; (generalize num n = l at *); have hsz := str_size l; have hcv := conv1 w1 (k + 55 + l.length) (by omega); (generalize hls : str l = s at *); have HS := Lib.hid hls; clear hls; (rw [← hsz] at hcv HL HE); (rw [show ((k + 55 + s.size : Nat) : Int) = (k : Int) + 55 + (s.size : Int) by omega] at hcv); (generalize hs1 : str [UInt8.ofNat (k + 55 + s.size)] = s1 at *); have HS1 := Lib.hid hs1; clear hs1 hsz; have hbig : ¬ 9223372036854775807 < s1.size + s.size := (by have h := str_size [UInt8.ofNat (k + 55 + s.size)]; rw [HS1.out] at h; simp at h; omega); have hfl := field_text s; unfold textV)
    go_ret
    refine ⟨?_, HB.out.alloc HB.out.size _⟩
    rw [HE.out, ← HS1.out, ← HS.out, str_append]
    simp [HS.out]
theorem headOf_c (s : List UInt8) (hs : s.length < 9223372036854775808) (w : World) : Calls Tryz.prog 272 #[.string (str s)] w fun e w' => e = .returned (.string (str (hdT s))) ∧ Below w.heap.size w w' := by
  have hsz := str_size s
  have HE := Lib.hid (show hdT s = if bareL s then [] else hd 128 s.length from rfl)
  have HC := Lib.hid (fun W => bare_c s W)
  have HD := Lib.hid (fun W => hd_c 128 s.length (Or.inl rfl) hs W)
  rw [← hsz] at HE HD
  generalize str s = x at *
  generalize bareL s = b at *
  clear hsz hs
  go_enter Tryz.func272, Tryz.ntmps272
  cases b
  · go_wp2_with (first | (go_at_call 181; refine (HC.out _).mono ?_; rintro e w1 ⟨rfl, rfl⟩) | (go_at_call 273; refine (HD.out _).mono ?_; rintro e w1 ⟨rfl, hb⟩; have HB := Lib.hid hb; clear hb))
    go_ret
    exact ⟨by rw [HE.out]; rfl, HB.out⟩
  · go_wp2_with (first | (go_at_call 181; refine (HC.out _).mono ?_; rintro e w1 ⟨rfl, rfl⟩))
    go_ret
    exact ⟨by rw [HE.out]; rfl, Below.refl _ _⟩
end Go.Proofs.YtekoaheiapddiaaGreat
end
section
namespace Go.Proofs.YtekoaheiapddiaaGreat
open Go.RowKit

section
variable {w : World} {B : Nat} {e : TypeId} {g cap n : Nat} {xs : List Value} {y : Value}
theorem own_form {v : Value} (h : w.ownsRow B e 1 v (n + 1) xs) : ∃ g cap, v = .slice (some ⟨g, 0, none⟩) (n + 1) cap ∧ B ≤ g ∧ g < w.heap.size ∧ n + 1 ≤ cap := by
  rcases h.2 with ⟨_, h0⟩ | ⟨g, cap, cur, rfl, hb, hg, hn, _⟩
  · omega
  · exact ⟨g, cap, rfl, hb, lt_of hg, hn⟩
theorem own_cell {v : Value} (h : w.ownsRow B e 1 v n xs) (hv : v = .slice (some ⟨g, 0, none⟩) n cap) (j : Nat) (u : Value) (hj : xs[j]? = some u) : w.cell? ⟨g, j, none⟩ = some u := by
  have h1 := h.cells (g := g) (by rw [hv]; rfl) j u hj
  have e : (⟨g, 0, none⟩ : Addr).add j = ⟨g, j, none⟩ := by unfold Addr.add; split <;> simp_all
  rwa [e] at h1
theorem own_free {v : Value} (h : w.ownsRow B e 1 v n xs) (hv : v = .slice (some ⟨g, 0, none⟩) n cap) (j : Nat) : w.frozen? ⟨g, j, none⟩ = false := by
  rcases h.2 with ⟨rfl, _⟩ | ⟨g', cap', cur, rfl, _, hg, _⟩
  · cases hv
  · cases hv; exact free_of hg j
theorem own_pop (h : w.ownsRow B e 1 (.slice (some ⟨g, 0, none⟩) (n + 1) cap) (n + 1) (xs ++ [y])) : w.ownsRow B e 1 (.slice (some ⟨g, 0, none⟩) n cap) n xs := by
  have hl : xs.length = n := by have := h.1; simp at this; omega
  refine ⟨by omega, Or.inr ?_⟩
  rcases h.2 with ⟨h0, _⟩ | ⟨g', cap', cur, hv, hb, hg, hn, hm, hs, ht⟩
  · cases h0
  · cases hv
    refine ⟨g, cap, cur, rfl, hb, hg, by omega, hm, hs, ?_⟩
    have := congrArg (List.take n) ht
    rw [List.take_take, Nat.mul_one, show min n (n + 1) = n by omega, List.take_left' hl] at this
    rwa [Nat.mul_one]
theorem own_setAt {v : Value} (h : w.ownsRow B e 1 v n xs) (hv : v = .slice (some ⟨g, 0, none⟩) n cap) (j : Nat) (y : Value) : (w.setCell ⟨g, j, none⟩ y).ownsRow B e 1 v n (xs.set j y) := by
  refine ⟨by simpa using h.1, Or.inr ?_⟩
  rcases h.2 with ⟨rfl, _⟩ | ⟨g', cap', cur, rfl, hb, hg, hn, hm, hs, ht⟩
  · cases hv
  · cases hv
    refine ⟨g, cap, cur.setIfInBounds j y, rfl, hb, heap_setCell_same _ _ _ _ _ _ hg, hn, hm, by simpa using hs, ?_⟩
    rw [Array.toList_setIfInBounds, ← ht, List.take_set]
end
theorem own_top {w : World} {B : Nat} {e : TypeId} {g cap n : Nat} {xs : List Value} {y : Value} (h : w.ownsRow B e 1 (.slice (some ⟨g, 0, none⟩) (n + 1) cap) (n + 1) (xs ++ [y])) : w.cell? ⟨g, n, none⟩ = some y ∧ w.frozen? ⟨g, n, none⟩ = false := by
  have hl : xs.length = n := by have := h.1; simp at this; omega
  exact ⟨own_cell h rfl n y (by rw [List.getElem?_append_right (by omega), hl]; simp), own_free h rfl n⟩
theorem own_keep {w w' : World} {B : Nat} {e : TypeId} {v : Value} {n : Nat} {xs : List Value} (h : w.ownsRow B e 1 v n xs) (hb : ∀ k, v.ownBlock = some k → w'.heap[k]? = w.heap[k]?) : w'.ownsRow B e 1 v n xs := by
  refine ⟨h.1, ?_⟩
  rcases h.2 with h0 | ⟨g, cap, cur, rfl, hbg, hg, rest⟩
  · exact Or.inl h0
  · exact Or.inr ⟨g, cap, cur, rfl, hbg, (hb g rfl).trans hg, rest⟩

/-- One element of one cell more. -/
theorem wpList_append_one {ops : Array Oper} {rest : List Oper} {o : Oper} {a : Act} {Q : Exit → Act → World → Prop} {W : World} (hgd : o.guard = none) (s x : Operand) (ty e : TypeId)
    (ho : o.op = .call { callee := .builtin .append, args := #[s, x], argTypes := #[ty, ty] }) (hu : Tryz.prog.underlying ty = some (.slice e)) (z : Value) (bytes : Nat)
    (hinfo : (Tryz.prog.info? e).map (fun i => (i.zero, i.size, i.bytes)) = some (some z, 1, bytes)) (hz1 : z.cells.size = 1) (hby : bytes ≤ 48)
    (B : Nat) (v : Value) (n : Nat) (xs : List Value) (hs : a.eval s = v) (hown : W.ownsRow B e 1 v n xs) (q : Nat) (u : Value) (h1 : u.oneCell' = true) (hx : a.eval x = .slice (some ⟨q, 0, none⟩) 1 1) (hz : W.heap[q]? = some (.cells #[u] e (0, 0)))
    (hB : B ≤ W.heap.size) (hn : n < 1000000000)
    (hK : ∀ v' W', W'.ownsRow B e 1 v' (n + 1) (xs ++ [u]) → W.grownBy W' v.ownBlock → (v'.ownBlock = v.ownBlock ∨ v'.ownBlock = some W.heap.size) → wpList Tryz.prog ops Q rest (a.put o.dst v') W') : wpList Tryz.prog ops Q (o :: rest) a W := by
  obtain ⟨i0, hi, hz0, hzz, hz2⟩ := info_parts hinfo
  refine wpList_append_own_at W hgd s x ty ho B e i0 z 1 bytes hu hi hz0 hzz hz2 hz1 (by omega) v n xs hs hown ⟨q, 0, none⟩ 1 1 [u] hx rfl ?_ ?_ (by unfold maxLen; omega) ?_ hB fun v' W' h2 h3 _ h5 => hK v' W' h2 h3 h5
  · intro j u' hj
    have e : (⟨q, 0, none⟩ : Addr).add j = ⟨q, j, none⟩ := by unfold Addr.add; split <;> simp_all
    rw [e, cell_of hz]
    simpa using hj
  · intro u' hu'
    obtain rfl : u' = u := by simpa using hu'
    exact h1
  · exact Nat.le_trans (Nat.mul_le_mul_left (n + 1) hby) (by omega)

theorem wp_append_one {o : Oper} {a : Act} {K : Act → World → Prop} {Q : Exit → Act → World → Prop} {W : World} (s x : Operand) (ty e : TypeId)
    (ho : o.op = .call { callee := .builtin .append, args := #[s, x], argTypes := #[ty, ty] }) (hu : Tryz.prog.underlying ty = some (.slice e)) (z : Value) (bytes : Nat)
    (hinfo : (Tryz.prog.info? e).map (fun i => (i.zero, i.size, i.bytes)) = some (some z, 1, bytes)) (hz1 : z.cells.size = 1) (hby : bytes ≤ 48)
    (B : Nat) (v : Value) (n : Nat) (xs : List Value) (hs : a.eval s = v) (hown : W.ownsRow B e 1 v n xs) (q : Nat) (u : Value) (h1 : u.oneCell' = true) (hx : a.eval x = .slice (some ⟨q, 0, none⟩) 1 1) (hz : W.heap[q]? = some (.cells #[u] e (0, 0)))
    (hB : B ≤ W.heap.size) (hn : n < 1000000000)
    (hK : ∀ v' W', W'.ownsRow B e 1 v' (n + 1) (xs ++ [u]) → W.grownBy W' v.ownBlock → (v'.ownBlock = v.ownBlock ∨ v'.ownBlock = some W.heap.size) → K (a.put o.dst v') W') : Oper.wp Tryz.prog o a W K Q := by
  obtain ⟨i0, hi, hz0, hzz, hz2⟩ := info_parts hinfo
  obtain ⟨v', w', hr, h2, h3, h4, h5⟩ := run_append_own_at (P := Tryz.prog) W B ty o.type e i0 z 1 bytes hu hi hz0 hzz hz2 hz1 (by omega) v n xs hown ⟨q, 0, none⟩ 1 1 [u] rfl (by
    intro j u' hj
    have e : (⟨q, 0, none⟩ : Addr).add j = ⟨q, j, none⟩ := by unfold Addr.add; split <;> simp_all
    rw [e, cell_of hz]
    simpa using hj) (by
    intro u' hu'
    obtain rfl : u' = u := by simpa using hu'
    exact h1) (by unfold maxLen; omega) (Nat.le_trans (Nat.mul_le_mul_left (n + 1) hby) (by omega)) hB
  unfold Oper.wp execOp
  simp only [ho, resolve, invoke, builtin, Sem.run_bind, Sem.run_pure, Result.andThen_ok, List.map_toArray, List.map_cons, List.map_nil, hs, hx, hr]
  exact hK _ _ h2 h3 h5

/-- What walk tells: a list begins, a text, a list ends. -/
inductive Ev where
  | bgn : Ev
  | txt (s : List UInt8) : Ev
  | fin : Ev
def Fo.evs : Fo → List Ev
  | .nil => []
  | .text s r => .txt s :: r.evs
  | .list i r => .bgn :: i.evs ++ .fin :: r.evs
/-- Of what is still to come, the last list first. -/
def evP : List Fo → List Ev
  | [] => []
  | f :: q => f.evs ++ .fin :: evP q
/-- From w to w' a call has turned nothing but blocks of F, and new ones; F' is what it may turn then. -/
structure Chg (F F' : Nat → Prop) (w w' : World) : Prop where
  os : w'.os = w.os
  tape : w'.tape = w.tape
  output : w'.output = w.output
  size : w.heap.size ≤ w'.heap.size
  block : ∀ k, k < w.heap.size → ¬ F k → w'.heap[k]? = w.heap[k]?
  new : ∀ k, F' k → F k ∨ w.heap.size ≤ k
theorem Chg.refl (F : Nat → Prop) (w : World) : Chg F F w w := ⟨rfl, rfl, rfl, Nat.le_refl _, fun _ _ _ => rfl, fun _ h => Or.inl h⟩
theorem Chg.trans {F F' F'' : Nat → Prop} {a b c : World} (h : Chg F F' a b) (k : Chg F' F'' b c) : Chg F F'' a c :=
  ⟨k.os.trans h.os, k.tape.trans h.tape, k.output.trans h.output, Nat.le_trans h.size k.size,
    fun i hi hn => (k.block i (Nat.lt_of_lt_of_le hi h.size) (fun hf => (h.new i hf).elim hn (by omega))).trans (h.block i hi hn),
    fun i hi => (k.new i hi).elim (fun hf => h.new i hf) (fun h2 => Or.inr (Nat.le_trans h.size h2))⟩
/-- Whom walk tells: a state, where it lies, and how each of the three functions turns it. -/
structure Sink (σ : Type) (nb nt ne : FuncId) (p : Value) where
  St : σ → World → Prop
  ft : World → Nat → Prop
  ok : σ → Ev → Prop
  step : σ → Ev → σ
  lt : ∀ s W k, St s W → ft W k → k < W.heap.size
  kept : ∀ s W W', St s W → (∀ k, ft W k → W'.heap[k]? = W.heap[k]?) → W.heap.size ≤ W'.heap.size → St s W' ∧ ∀ k, ft W' k ↔ ft W k
  eb : ∀ args w, (callFunc nb args).run Tryz.prog w = .ok (.enter nb args) w
  et : ∀ args w, (callFunc nt args).run Tryz.prog w = .ok (.enter nt args) w
  ee : ∀ args w, (callFunc ne args).run Tryz.prog w = .ok (.enter ne args) w
  cb : ∀ s W, St s W → ok s .bgn → Calls Tryz.prog nb #[p] W fun e W' => e = .returned (.tuple #[]) ∧ St (step s .bgn) W' ∧ Chg (ft W) (ft W') W W'
  ct : ∀ s t W, St s W → ok s (.txt t) → Calls Tryz.prog nt #[p, .string (str t)] W fun e W' => e = .returned (.tuple #[]) ∧ St (step s (.txt t)) W' ∧ Chg (ft W) (ft W') W W'
  ce : ∀ s W, St s W → ok s .fin → Calls Tryz.prog ne #[p] W fun e W' => e = .returned (.tuple #[]) ∧ St (step s .fin) W' ∧ Chg (ft W) (ft W') W W'
def runE {σ : Type} (st : σ → Ev → σ) : σ → List Ev → σ
  | s, [] => s
  | s, e :: r => runE st (st s e) r
def goodE {σ : Type} (st : σ → Ev → σ) (ok : σ → Ev → Prop) : σ → List Ev → Prop
  | _, [] => True
  | s, e :: r => ok s e ∧ goodE st ok (st s e) r
theorem runE_app {σ : Type} (st : σ → Ev → σ) : ∀ (a b : List Ev) (s : σ), runE st s (a ++ b) = runE st (runE st s a) b
  | [], _, _ => rfl
  | _ :: r, b, s => runE_app st r b (st s _)
theorem goodE_app {σ : Type} (st : σ → Ev → σ) (ok : σ → Ev → Prop) : ∀ (a b : List Ev) (s : σ), goodE st ok s (a ++ b) ↔ goodE st ok s a ∧ goodE st ok (runE st s a) b
  | [], _, _ => by simp [goodE, runE]
  | e :: r, b, s => by
    show ok s e ∧ goodE st ok (st s e) (r ++ b) ↔ (ok s e ∧ goodE st ok (st s e) r) ∧ goodE st ok (runE st (st s e) r) b
    rw [goodE_app st ok r b (st s e), and_assoc]
/-- What is still to come, as values. -/
def Pend (S : Nat → Prop) : List Fo → List Value → World → Prop
  | [], ys, _ => ys = []
  | f :: q, ys, W => ∃ y r, ys = y :: r ∧ SlF S f y W ∧ Pend S q r W
theorem Pend.kept {S : Nat → Prop} {W W' : World} (hb : ∀ k, S k → W'.heap[k]? = W.heap[k]?) : ∀ (q : List Fo) (ys : List Value), Pend S q ys W → Pend S q ys W'
  | [], _, h => h
  | _ :: q, _, ⟨y, r, e, h1, h2⟩ => ⟨y, r, e, h1.kept hb, Pend.kept hb q r h2⟩
theorem Pend.length {S : Nat → Prop} {W : World} : ∀ (q : List Fo) (ys : List Value), Pend S q ys W → ys.length = q.length
  | [], _, h => by cases h; rfl
  | _ :: q, _, ⟨y, r, e, h1, h2⟩ => by subst e; simp [Pend.length q r h2]
theorem evP_len : ∀ q : List Fo, q.length ≤ (evP q).length
  | [] => Nat.le_refl _
  | f :: q => by have := evP_len q; simp [evP]; omega
end Go.Proofs.YtekoaheiapddiaaGreat
end
section
namespace Go.Proofs.YtekoaheiapddiaaGreat
open Go.RowKit

theorem infoItem' : (Tryz.prog.info? 198).map (fun i => (i.zero, i.size, i.bytes)) = some (some (.agg #[.bool false, .string ⟨#[]⟩, .slice none 0 0]), 3, 48) := by kernel_rfl
theorem addr_add (g o j : Nat) : (⟨g, o, none⟩ : Addr).add j = ⟨g, o + j, none⟩ := by unfold Addr.add; split <;> simp_all
/-- The cells in which items lie. -/
theorem Fo.At.cells {S : Nat → Prop} {W : World} : ∀ (f : Fo) (g o : Nat), f.At S g o W → ∃ xs, Cel S f xs W ∧ (∀ j u, xs[j]? = some u → W.cell? ⟨g, o + j, none⟩ = some u) ∧ ∀ u ∈ xs, u.oneCell' = true := by
  intro f
  induction f with
  | nil => intro g o _; exact ⟨[], rfl, fun j u h => by simp at h, fun u h => by simp at h⟩
  | text s r ih =>
    intro g o ⟨⟨h1, h2, h3⟩, h4⟩
    obtain ⟨ys, a1, a2, a3⟩ := ih g _ h4
    refine ⟨_, ⟨ys, rfl, a1⟩, fun j u hj => ?_, fun u hu => ?_⟩
    · rcases j with _ | _ | _ | j
      · simp at hj; subst hj; exact h1
      · simp at hj; subst hj; exact h2
      · simp at hj; subst hj; exact h3
      · rw [show o + (j + 1 + 1 + 1) = o + 3 + j by omega]; exact a2 j u (by simpa using hj)
    · simp only [List.mem_cons] at hu
      rcases hu with rfl | rfl | rfl | hu
      · rfl
      · rfl
      · rfl
      · exact a3 u hu
  | list i r _ ih =>
    intro g o ⟨⟨h1, h2, v, h3, h5⟩, h4⟩
    obtain ⟨ys, a1, a2, a3⟩ := ih g _ h4
    have hv : SlF S i v W := h5
    refine ⟨_, ⟨v, ys, rfl, hv, a1⟩, fun j u hj => ?_, fun u hu => ?_⟩
    · rcases j with _ | _ | _ | j
      · simp at hj; subst hj; exact h1
      · simp at hj; subst hj; exact h2
      · simp at hj; subst hj; exact h3
      · rw [show o + (j + 1 + 1 + 1) = o + 3 + j by omega]; exact a2 j u (by simpa using hj)
    · simp only [List.mem_cons] at hu
      rcases hu with rfl | rfl | rfl | hu
      · rfl
      · rfl
      · obtain ⟨a, n, c, rfl⟩ := hv.form; rfl
      · exact a3 u hu
/-- A slice whose row may be written: it lies from block B on. -/
def Ow (B : Nat) (v : Value) (W : World) : Prop := ∃ g n cap cur, v = .slice (some ⟨g, 0, none⟩) n cap ∧ B ≤ g ∧ W.heap[g]? = some (.cells cur 198 (0, 0))
set_option maxRecDepth 100000 in
set_option maxHeartbeats 1000000 in
theorem clone_c {S : Nat → Prop} {f : Fo} {v : Value} {W : World} (h : SlF S f v W) (hS : ∀ k, S k → k < W.heap.size) (hn : f.len ≤ 1000000) :
    Calls Tryz.prog 262 #[v] W fun e W' => ∃ v', e = .returned v' ∧ Below W.heap.size W W' ∧ (v = .slice none 0 0 → v' = .slice none 0 0) ∧ SlF (fun k => S k ∨ (W.heap.size ≤ k ∧ ∃ cur, W'.heap[k]? = some (.cells cur 198 (0, 0)))) f v' W' ∧ (v' = .slice none 0 0 ∨ Ow W.heap.size v' W') := by
  have hq : ∀ (w : World) (a : Option Addr) (n c n' c' : Nat), (binOp .eql 196 (.slice a n c) (.slice none n' c')).run Tryz.prog w = .ok (.bool a.isNone) w := fun w a n c n' c' => Lib.run_eql_slice_nil w _ _ a n c n' c' Tryz.underlying196
  rcases h with ⟨rfl, rfl⟩ | ⟨g, o, c, rfl, hg, hc, ha⟩
  · go_enter Tryz.func262, Tryz.ntmps262
    go_wp2_with fail
    go_ret
    exact ⟨_, rfl, Below.refl _ _, fun _ => rfl, Or.inl ⟨rfl, rfl⟩, Or.inl rfl⟩
  · obtain ⟨xs, hx1, hx2, hx3⟩ := Fo.At.cells f g o ha
    have HX := Lib.hid (And.intro hx1 (And.intro hx2 (And.intro hx3 hg)))
    clear ha hx1 hx2 hx3 hg
    go_enter Tryz.func262, Tryz.ntmps262
    obtain ⟨i0, hi, hz0, hz1, hz2⟩ := info_parts infoItem'
    have HI := Lib.hid (And.intro hi (And.intro hz0 (And.intro hz1 hz2)))
    clear hi hz0 hz1 hz2
    have hcel := Lib.hid (Cel.length f xs HX.out.1)
    go_wp2_with (at_builtin; refine wpList_append_own_at _ rfl _ _ 196 rfl W.heap.size 198 i0 _ 3 48 Tryz.underlying196 HI.out.1 HI.out.2.1 HI.out.2.2.1 HI.out.2.2.2 rfl (by omega) _ 0 [] (by rfl) (World.ownsRow_made W #[] 0 (Nat.le_refl _) (by simp) (by simp)) ⟨g, o, none⟩ f.len c xs (by rfl) hcel.out (fun j u hj => by rw [addr_add]; exact (World.cell?_of_block (Below.heap_alloc _ _ _ (hS g HX.out.2.2.2))).trans (HX.out.2.1 j u hj)) HX.out.2.2.1 (by unfold maxLen; omega) (by omega) (by simp) ?_; intro v2 W2 hown2 hgr2 hnil2 hbl2; obtain ⟨a2, n2, c2, rfl⟩ : ∃ a n c, v2 = .slice a n c := (by rcases hown2.2 with ⟨rfl, _⟩ | ⟨g', cap', cur', rfl, _⟩ <;> exact ⟨_, _, _, rfl⟩); have HG := Lib.hid (And.intro hown2 (And.intro hgr2 hnil2)); clear hown2 hgr2 hnil2 hbl2)
    go_ret
    obtain ⟨hown, hgr, hnil⟩ := HG.out
    rw [Nat.zero_add, List.nil_append] at hown
    have hk : ∀ k, k < W.heap.size → W2.heap[k]? = W.heap[k]? := fun k hk => (hgr.block k (by simp; omega) (fun e => by simp [Value.ownBlock] at e; omega)).trans (Below.heap_alloc _ _ _ hk)
    have hsz : W.heap.size ≤ W2.heap.size := by have := hgr.size; simp at this; omega
    have hc2 : Cel (fun k => S k ∨ (W.heap.size ≤ k ∧ ∃ cur, W2.heap[k]? = some (.cells cur 198 (0, 0)))) f xs W2 := (HX.out.1.kept (fun k h => hk k (hS k h)) f xs).mono (fun k h => Or.inl h) f xs
    rcases hown.2 with ⟨e, _⟩ | ⟨g', cap', cur', e, hb', hg', hn', _, _, _⟩
    · exact absurd (hnil.1 e).1 (by simp)
    · refine ⟨_, rfl, ⟨hgr.os, hgr.tape, hgr.output, hsz, hk⟩, fun h => by simp at h, Or.inr ⟨g', 0, cap', e, Or.inr ⟨hb', cur', hg'⟩, hn', ?_⟩, Or.inr ⟨g', _, cap', cur', e, hb', hg'⟩⟩
      refine Cel.at f xs 0 (fun j u hj => ?_) hc2
      have h := hown.cells (g := g') (by rw [e]; rfl) j u hj
      rw [addr_add] at h
      exact h
end Go.Proofs.YtekoaheiapddiaaGreat
end
section
namespace Go.Proofs.YtekoaheiapddiaaGreat
open Go.RowKit

theorem infoSl : (Tryz.prog.info? 196).map (fun i => (i.zero, i.size, i.bytes)) = some (some (.slice none 0 0), 1, 24) := by kernel_rfl
section
variable {σ : Type} {nb nt ne : FuncId} {p : Value}
/-- What walk knows: begun in w, with the items' blocks S; q is still to come, the last list first; the state is s. -/
structure WI (K : Sink σ nb nt ne p) (S : Nat → Prop) (w : World) (q : List Fo) (s : σ) (W : World) : Prop where
  st : K.St s W
  fb : W.heap[w.heap.size + 1]? = some (.cells #[.func (.func nb) #[p] #[]] 1 (0, 0))
  ftx : W.heap[w.heap.size + 2]? = some (.cells #[.func (.func nt) #[p] #[]] 189 (0, 0))
  op : ∃ vo ys, W.heap[w.heap.size + 3]? = some (.cells #[vo] 342 (0, 0)) ∧ W.ownsRow (w.heap.size + 4) 196 1 vo q.length ys.reverse ∧ Pend S q ys W ∧ ∀ k, vo.ownBlock = some k → ¬ K.ft W k
  fr : ∀ k, k < w.heap.size → ¬ K.ft w k → W.heap[k]? = w.heap[k]?
  fn : ∀ k, K.ft W k → (k < w.heap.size ∧ K.ft w k) ∨ w.heap.size + 4 ≤ k
  size : w.heap.size + 4 ≤ W.heap.size
  os : W.os = w.os
  tape : W.tape = w.tape
  output : W.output = w.output
variable {K : Sink σ nb nt ne p} {S : Nat → Prop} {w W : World} {q : List Fo} {s : σ}
theorem WI.alloc (h : WI K S w q s W) (hS : ∀ k, S k → k < w.heap.size ∧ ¬ K.ft w k) (o : Obj) : WI K S w q s (W.alloc o) := by
  have hs := h.size
  have ho : ∀ k, k < W.heap.size → (W.alloc o).heap[k]? = W.heap[k]? := fun k hk => Below.heap_alloc _ _ _ hk
  obtain ⟨h1, h2⟩ := K.kept s W (W.alloc o) h.st (fun k hk => ho k (K.lt _ _ _ h.st hk)) (by simp)
  obtain ⟨vo, ys, a1, a2, a3, a4⟩ := h.op
  exact ⟨h1, (ho _ (by omega)).trans h.fb, (ho _ (by omega)).trans h.ftx, ⟨vo, ys, (ho _ (by omega)).trans a1, a2.alloc o, a3.kept (fun k hk => ho k (by have := (hS k hk).1; omega)) _ _, fun k hk hf => a4 k hk ((h2 k).1 hf)⟩,
    fun k hk hn => (ho k (by omega)).trans (h.fr k hk hn), fun k hk => h.fn k ((h2 k).1 hk), by simp; omega, h.os, h.tape, h.output⟩
theorem WI.sink {s' : σ} {W' : World} (h : WI K S w q s W) (hS : ∀ k, S k → k < w.heap.size ∧ ¬ K.ft w k) (h1 : K.St s' W') (hc : Chg (K.ft W) (K.ft W') W W') : WI K S w q s' W' := by
  have hs := h.size
  have ho : ∀ k, k < w.heap.size + 4 → ¬ (k < w.heap.size ∧ K.ft w k) → W'.heap[k]? = W.heap[k]? := fun k hk hn => hc.block k (by omega) (fun hf => (h.fn k hf).elim hn (by omega))
  obtain ⟨vo, ys, a1, a2, a3, a4⟩ := h.op
  refine ⟨h1, (ho _ (by omega) (by omega)).trans h.fb, (ho _ (by omega) (by omega)).trans h.ftx, ⟨vo, ys, (ho _ (by omega) (by omega)).trans a1, own_keep a2 (fun k hk => hc.block k (a2.lt k hk).2 (a4 k hk)), a3.kept (fun k hk => ho k (by have := (hS k hk).1; omega) (fun hh => (hS k hk).2 hh.2)) _ _, fun k hk hf => (hc.new k hf).elim (a4 k hk) (by have := (a2.lt k hk).2; omega)⟩,
    fun k hk hn => (ho k (by omega) (fun hh => hn hh.2)).trans (h.fr k hk hn), fun k hk => (hc.new k hk).elim (h.fn k) (fun h2 => Or.inr (by omega)), Nat.le_trans hs hc.size, hc.os.trans h.os, hc.tape.trans h.tape, hc.output.trans h.output⟩
/-- A turn of walk's own blocks: its variable, and the row that it names. -/
theorem WI.own {q' : List Fo} {W' : World} {vo vo' : Value} {ys' : List Value} (h : WI K S w q s W)
    (hvo : W.heap[w.heap.size + 3]? = some (.cells #[vo] 342 (0, 0)))
    (hb : ∀ k, k < W.heap.size → k ≠ w.heap.size + 3 → vo.ownBlock ≠ some k → W'.heap[k]? = W.heap[k]?) (hsz : W.heap.size ≤ W'.heap.size) (hos : W'.os = W.os) (ht : W'.tape = W.tape) (hout : W'.output = W.output)
    (h1 : W'.heap[w.heap.size + 3]? = some (.cells #[vo'] 342 (0, 0))) (h2 : W'.ownsRow (w.heap.size + 4) 196 1 vo' q'.length ys'.reverse) (h3 : Pend S q' ys' W') (h4 : ∀ k, vo'.ownBlock = some k → vo.ownBlock = some k ∨ W.heap.size ≤ k) : WI K S w q' s W' := by
  have hs := h.size
  obtain ⟨vo0, ys, a1, a2, a3, a4⟩ := h.op
  obtain rfl : vo = vo0 := by rw [a1] at hvo; simpa using hvo.symm
  have hk : ∀ k, K.ft W k → W'.heap[k]? = W.heap[k]? := fun k hf => hb k (K.lt _ _ _ h.st hf) (fun e => by have := h.fn k hf; omega) (fun e => a4 k e hf)
  obtain ⟨b1, b2⟩ := K.kept s W W' h.st hk hsz
  have hlo : ∀ k, k < w.heap.size + 3 → W'.heap[k]? = W.heap[k]? := fun k hk => hb k (by omega) (by omega) (fun e => by have := (a2.lt k e).1; omega)
  exact ⟨b1, (hlo _ (by omega)).trans h.fb, (hlo _ (by omega)).trans h.ftx, ⟨vo', ys', h1, h2, h3, fun k hk hf => by
    have hf' := (b2 k).1 hf
    rcases h4 k hk with h5 | h5
    · exact a4 k h5 hf'
    · have := K.lt _ _ _ h.st hf'; omega⟩,
    fun k hk hn => (hlo k (by omega)).trans (h.fr k hk hn), fun k hk => h.fn k ((b2 k).1 hk), by omega, hos.trans h.os, ht.trans h.tape, hout.trans h.output⟩
theorem WI.fresh (h : WI K S w q s W) (o : Obj) : ¬ K.ft (W.alloc o) W.heap.size := fun hf => by
  obtain ⟨_, h2⟩ := K.kept s W (W.alloc o) h.st (fun k hk => Below.heap_alloc _ _ _ (K.lt _ _ _ h.st hk)) (by simp)
  have := K.lt _ _ _ h.st ((h2 _).1 hf)
  omega
set_option maxRecDepth 100000 in
set_option maxHeartbeats 1000000 in
theorem enter_text (hS : ∀ k, S k → k < w.heap.size ∧ ¬ K.ft w k) (t : List UInt8) (h : WI K S w q s W) (hok : K.ok s (.txt t)) :
    Calls Tryz.prog 270 #[.agg #[.bool false, .string (str t), .slice none 0 0], .pointer (some ⟨w.heap.size + 2, 0, none⟩), .pointer (some ⟨w.heap.size + 1, 0, none⟩), .pointer (some ⟨w.heap.size + 3, 0, none⟩)] W
      fun e W' => e = .returned (.tuple #[]) ∧ WI K S w q (K.step s (.txt t)) W' := by
  have hs := Lib.hid h.size
  have H := Lib.hid h
  have H1 := Lib.hid (h.alloc hS (.cells #[.bool false, .string (str t), .slice none 0 0] 198))
  have c0 : (W.alloc (.cells #[.bool false, .string (str t), .slice none 0 0] 198)).cell? ⟨w.heap.size + 2, 0, none⟩ = some (.func (.func nt) #[p] #[]) := cell_of H1.out.ftx 0
  have HC := Lib.hid (K.ct s t _ H1.out.st hok)
  generalize str t = x at *
  have et := K.et
  clear h hok
  go_enter Tryz.func270, Tryz.ntmps270
  go_wp2_with fail
  refine HC.out.mono ?_
  rintro e W2 ⟨rfl, hst, hc⟩
  have H2 := Lib.hid (H1.out.sink hS hst hc)
  clear hst hc
  go_wp2_with fail
  first
    | (go_end0; exact ⟨rfl, H2.out⟩)
    | (refine bodyPost_ret (results_none rfl _ _ _) rfl ⟨rfl, H2.out⟩)
set_option maxRecDepth 100000 in
set_option maxHeartbeats 1000000 in
theorem enter_list (hS : ∀ k, S k → k < w.heap.size ∧ ¬ K.ft w k) (i : Fo) (va : Option Addr) (vn vc : Nat) (hv : SlF S i (.slice va vn vc) W) (h : WI K S w q s W) (hok : K.ok s .bgn) (hq : q.length < 1000000) :
    Calls Tryz.prog 270 #[.agg #[.bool true, .string ⟨#[]⟩, .slice va vn vc], .pointer (some ⟨w.heap.size + 2, 0, none⟩), .pointer (some ⟨w.heap.size + 1, 0, none⟩), .pointer (some ⟨w.heap.size + 3, 0, none⟩)] W
      fun e W' => e = .returned (.tuple #[]) ∧ WI K S w (i :: q) (K.step s .bgn) W' := by
  have hs := Lib.hid h.size
  have H := Lib.hid (And.intro h hv)
  have H1 := Lib.hid (h.alloc hS (.cells #[.bool true, .string ⟨#[]⟩, .slice va vn vc] 198))
  have c0 : (W.alloc (.cells #[.bool true, .string ⟨#[]⟩, .slice va vn vc] 198)).cell? ⟨w.heap.size + 1, 0, none⟩ = some (.func (.func nb) #[p] #[]) := cell_of H1.out.fb 0
  have HN := Lib.hid (heap_alloc_new W (.cells #[.bool true, .string ⟨#[]⟩, .slice va vn vc] 198))
  have HC := Lib.hid (K.cb s _ H1.out.st hok)
  have eb := K.eb
  clear h hok hv
  go_enter Tryz.func270, Tryz.ntmps270
  go_wp2_with fail
  refine HC.out.mono ?_
  rintro e W2 ⟨rfl, hst, hc⟩
  have H2 := Lib.hid (H1.out.sink hS hst hc)
  have hbox : W2.heap[W.heap.size]? = some (.cells #[.bool true, .string ⟨#[]⟩, .slice va vn vc] 198 (0, 0)) := (hc.block _ (by simp) (H.out.1.fresh _)).trans HN.out
  have c1 : W2.cell? ⟨W.heap.size, 2, none⟩ = some (.slice va vn vc) := cell_of hbox 2
  have hv2 : SlF S i (.slice va vn vc) W2 := H.out.2.kept (fun k hk => (H2.out.fr k (hS k hk).1 (hS k hk).2).trans (H.out.1.fr k (hS k hk).1 (hS k hk).2).symm)
  obtain ⟨vo, ys, a1, a2, a3, a4⟩ := H2.out.op
  have c2 : W2.cell? ⟨w.heap.size + 3, 0, none⟩ = some vo := cell_of a1 0
  have HA := Lib.hid (And.intro a1 (And.intro a2 (And.intro a3 hv2)))
  have hw2 := Lib.hid H2.out.size
  clear hst hc hbox hv2 a1 a2 a3 a4
  obtain ⟨oa, on, oc, rfl⟩ : ∃ a n c, vo = .slice a n c := by
    rcases HA.out.2.1.2 with ⟨rfl, _⟩ | ⟨g, cap, cur, rfl, _⟩
    · exact ⟨_, _, _, rfl⟩
    · exact ⟨_, _, _, rfl⟩
  go_wp2_with (at_builtin; refine wpList_append_one (by rfl) _ _ 342 196 (by rfl) Tryz.underlying342 _ 24 infoSl rfl (by omega) (w.heap.size + 4) _ q.length ys.reverse (by rfl) (HA.out.2.1.alloc _) W2.heap.size (.slice va vn vc) rfl (by rfl) (heap_alloc_new _ _) (Nat.le_trans hw2.out (by simp)) (by omega) ?_; intro v3 W3 hown3 hgr3 hbl3; obtain ⟨g3, cap3, rfl, hg3, hg3b, hg3c⟩ := own_form hown3; have HG3 := Lib.hid (And.intro hg3 hg3b); clear hg3 hg3b hg3c; have HG := Lib.hid (And.intro hown3 (And.intro hgr3 hbl3)); have hne := (show ∀ k, (Value.slice oa on oc).ownBlock = some k → w.heap.size + 4 ≤ k ∧ k < W2.heap.size from fun k hk => HA.out.2.1.lt k hk); have h3b : W3.heap[w.heap.size + 3]? = some (.cells #[.slice oa on oc] 342 (0, 0)) := (hgr3.block _ (by have := hw2.out; simp; omega) (fun e => by have := hne _ e.symm; omega)).trans ((Below.heap_alloc _ _ _ (by have := hw2.out; omega)).trans HA.out.1); have c3 : W3.cell? ⟨w.heap.size + 3, 0, none⟩ = some (.slice oa on oc) := cell_of h3b 0; have z3 := free_of h3b 0; have H3 := Lib.hid (And.intro h3b hne); clear h3b hown3 hgr3 hbl3 hne)
  have hfin : WI K S w (i :: q) (K.step s .bgn) (W3.setCell ⟨w.heap.size + 3, 0, none⟩ (.slice (some ⟨g3, 0, none⟩) (q.length + 1) cap3)) := by
    have hw := hw2.out
    have hk : ∀ k, k < W2.heap.size → k ≠ w.heap.size + 3 → (Value.slice oa on oc).ownBlock ≠ some k → (W3.setCell ⟨w.heap.size + 3, 0, none⟩ (.slice (some ⟨g3, 0, none⟩) (q.length + 1) cap3)).heap[k]? = W2.heap[k]? := fun k h1 h2 h3 => by
      rw [heap_setCell_other _ _ _ _ (by simpa using h2)]
      exact (HG.out.2.1.block k (by simp; omega) (fun e => h3 e.symm)).trans (Below.heap_alloc _ _ _ h1)
    have hkS : ∀ k, S k → (W3.setCell ⟨w.heap.size + 3, 0, none⟩ (.slice (some ⟨g3, 0, none⟩) (q.length + 1) cap3)).heap[k]? = W2.heap[k]? := fun k hkS => by
      have h1 := (hS k hkS).1
      refine hk k (by omega) (by omega) (fun e => ?_)
      have := (H3.out.2 k e).1
      omega
    refine H2.out.own (vo := .slice oa on oc) (vo' := .slice (some ⟨g3, 0, none⟩) (q.length + 1) cap3) (ys' := .slice va vn vc :: ys) HA.out.1 hk ?_ ?_ ?_ ?_ ?_ ?_ ?_ ?_
    · have := HG.out.2.1.size
      simp at this
      simp [World.setCell]; omega
    · exact HG.out.2.1.os
    · exact HG.out.2.1.tape
    · exact HG.out.2.1.output
    · simpa using heap_setCell_same _ _ 0 _ _ (.slice (some ⟨g3, 0, none⟩) (q.length + 1) cap3) H3.out.1
    · rw [List.reverse_cons]
      refine own_keep HG.out.1 (fun k hk => ?_)
      have hk : g3 = k := by simpa [Value.ownBlock] using hk
      have := HG3.out.1
      rw [heap_setCell_other _ _ _ _ (by simp; omega)]
    · exact ⟨_, _, rfl, HA.out.2.2.2.kept hkS, HA.out.2.2.1.kept hkS _ _⟩
    · intro k hk
      rcases HG.out.2.2 with h | h
      · left; rw [← h]; exact hk
      · right; rw [h] at hk; injection hk with hk; simp at hk; omega
  first
    | (go_end0; exact ⟨rfl, hfin⟩)
    | (refine bodyPost_ret (results_none rfl _ _ _) rfl ⟨rfl, hfin⟩)
end
end Go.Proofs.YtekoaheiapddiaaGreat
end
