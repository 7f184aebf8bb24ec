/- The reader's small functions: must, take, body. -/
import Derived.Test.YtgaaalacoeainaaLc
namespace Go.Proofs.Ytgaaalacoeainaa
open Go.RowKit

/-- What must panics with. -/
def boom : List PanicEntry := [{ v := .iface 43 (.int .i64 2), recovered := false }]
theorem must_ok (w : World) : Calls Try.prog 40 #[.bool true] w fun e w' => e = .returned (.tuple #[]) ∧ w' = w := by
  go_enter Try.func40, Try.ntmps40
  go_wp2_with fail
  go_end0
  exact ⟨rfl, rfl⟩
theorem must_no (w : World) : Calls Try.prog 40 #[.bool false] w fun e w' => e = .panicked boom ∧ w' = w := by
  go_enter Try.func40, Try.ntmps40
  go_wp2_with fail
  exact ⟨rfl, rfl, rfl⟩
/-- The reader in block g has the bytes s left. -/
def Rd (g : Nat) (s : List UInt8) (W : World) : Prop := W.heap[g]? = some (.cells #[.string (str s)] 76 (0, 0))
theorem Rd.set {g : Nat} {s t : List UInt8} {W : World} (h : Rd g s W) : Rd g t (W.setCell ⟨g, 0, none⟩ (.string (str t))) := by
  have e := heap_setCell_same _ _ 0 _ _ (.string (str t)) h
  unfold Rd
  simpa using e
theorem Rd.only {g B : Nat} {u : Value} (W : World) : Only (fun k => k = g) B W (W.setCell ⟨g, 0, none⟩ u) := (Only.refl (fun k => k = g) _ _).setCell (p := ⟨g, 0, none⟩) (Or.inr rfl) _
theorem str_take (s : List UInt8) (n : Nat) : (str s).extract 0 n = str (s.take n) := by
  apply ByteArray.ext
  simp [str, ByteArray.data_extract]
theorem str_drop (s : List UInt8) (n : Nat) : (str s).extract n (str s).size = str (s.drop n) := by
  apply ByteArray.ext
  simp [str, ByteArray.data_extract, ByteArray.size]
  rw [List.take_of_length_le (by simp)]
theorem take_ok (g : Nat) (s : List UInt8) (n : Nat) (hn : n ≤ s.length) (hs : s.length < 9223372036854775808) (w : World) (h : Rd g s w) :
    Calls Try.prog 51 #[.pointer (some ⟨g, 0, none⟩), .int .u64 n] w fun e w' => e = .returned (.string (str (s.take n))) ∧ w' = w.setCell ⟨g, 0, none⟩ (.string (str (s.drop n))) := by
  have c0 := cell_of h 0
  have z0 := free_of h 0
  have h1 := str_take s n
  have h2 := str_drop s n
  have hsz := str_size s
  rw [← hsz] at hs hn
  generalize str s = x at *
  generalize str (s.take n) = y at *
  generalize str (s.drop n) = z at *
  have hi : (n : Int) ≤ (x.size : Int) := by omega
  clear hsz h
  go_enter Try.func51, Try.ntmps51
  go_wp2_with (go_at_call 40; refine (must_ok _).mono ?_; rintro e w1 ⟨rfl, rfl⟩)
  go_ret
  exact ⟨rfl, rfl⟩
theorem take_no (g : Nat) (s : List UInt8) (n : Nat) (hn : ¬ n ≤ s.length) (hs : s.length < 9223372036854775808) (w : World) (h : Rd g s w) :
    Calls Try.prog 51 #[.pointer (some ⟨g, 0, none⟩), .int .u64 n] w fun e w' => e = .panicked boom ∧ w' = w := by
  have c0 := cell_of h 0
  have hsz := str_size s
  rw [← hsz] at hs hn
  generalize str s = x at *
  have hi : ¬ (n : Int) ≤ (x.size : Int) := by omega
  clear hsz h
  go_enter Try.func51, Try.ntmps51
  go_wp2_with (go_at_call 40; refine (must_no _).mono ?_; rintro e w1 ⟨rfl, rfl⟩)
  exact ⟨rfl, rfl, rfl⟩
/-- What a reader's function hands back: the bytes, and what is left; or it panics. -/
def RdR (g : Nat) (w : World) (r : Option (List UInt8 × List UInt8)) (e : Ending) (w' : World) : Prop :=
  Only (fun k => k = g) w.heap.size w w' ∧ match r with
    | some (a, b) => e = .returned (.string (str a)) ∧ Rd g b w'
    | none => e = .panicked boom
theorem take_c (g : Nat) (s : List UInt8) (n : Nat) (hs : s.length < 9223372036854775808) (w : World) (h : Rd g s w) :
    Calls Try.prog 51 #[.pointer (some ⟨g, 0, none⟩), .int .u64 n] w (RdR g w (tk n s)) := by
  by_cases hn : n ≤ s.length
  · refine (take_ok g s n hn hs w h).mono ?_
    rintro e w' ⟨rfl, rfl⟩
    unfold tk
    rw [if_pos hn]
    exact ⟨Rd.only w, rfl, h.set⟩
  · refine (take_no g s n hn hs w h).mono ?_
    rintro e w' ⟨rfl, rfl⟩
    unfold tk
    rw [if_neg hn]
    exact ⟨Only.refl _ _ _, rfl⟩
theorem Rd.later {g : Nat} {s : List UInt8} {W W' : World} (h : Rd g s W) (hb : Below W.heap.size W W') : Rd g s W' := (hb.block _ (lt_of h)).trans h
theorem tk_length {n : Nat} {s a b : List UInt8} (h : tk n s = some (a, b)) : a.length = n ∧ b.length = s.length - n ∧ s = a ++ b ∧ n ≤ s.length := by
  unfold tk at h
  split at h
  · rename_i hn
    cases h
    exact ⟨by simp; omega, by simp, (List.take_append_drop _ _).symm, hn⟩
  · cases h
theorem Only.thenB {may : Nat → Prop} {w w1 w2 : World} (h : Only may w.heap.size w w1) (hb : Below w1.heap.size w1 w2) : Only may w.heap.size w w2 := h.trans ((Only.of_below hb).mono h.size (fun _ _ h => h))
theorem Only.thenO {may : Nat → Prop} {w w1 w2 : World} (h : Only may w.heap.size w w1) (hb : Only may w1.heap.size w1 w2) : Only may w.heap.size w w2 := h.trans (hb.mono h.size (fun _ _ h => h))
theorem body_short (g : Nat) (s : List UInt8) (a : Nat) (ha : a ≤ 55) (hs : s.length < 9223372036854775808) (w : World) (h : Rd g s w) :
    Calls Try.prog 53 #[.pointer (some ⟨g, 0, none⟩), .int .u8 a] w (RdR g w (tk a s)) := by
  have hi : (a : Int) ≤ 55 := by omega
  have HT := Lib.hid (fun W h => take_c g s a hs W h)
  have H := Lib.hid h
  clear h
  cases hk : tk a s with
  | none =>
    rw [hk] at HT
    clear hk
    go_enter Try.func53, Try.ntmps53
    go_wp2_with (go_at_call 51; refine (HT.out _ H.out).mono ?_; rintro e w1 ⟨ho, rfl⟩; have HO := Lib.hid ho; clear ho)
    exact ⟨rfl, HO.out, rfl⟩
  | some x =>
    obtain ⟨y, z⟩ := x
    rw [hk] at HT
    clear hk
    go_enter Try.func53, Try.ntmps53
    go_wp2_with (go_at_call 51; refine (HT.out _ H.out).mono ?_; rintro e w1 ⟨ho, rfl, hr⟩; have HO := Lib.hid (And.intro ho hr); clear ho hr)
    go_ret
    exact ⟨HO.out.1, rfl, HO.out.2⟩
set_option maxRecDepth 100000 in
set_option maxHeartbeats 1000000 in
theorem body_long (g : Nat) (s : List UInt8) (a : Nat) (ha : 55 < a) (ha2 : a < 64) (hs : s.length < 9223372036854775808) (w : World) (h : Rd g s w) :
    Calls Try.prog 53 #[.pointer (some ⟨g, 0, none⟩), .int .u8 a] w (RdR g w (bodyP a s)) := by
  have hi : ¬ (a : Int) ≤ 55 := by omega
  have hi2 : ((a - 55 : Nat) : Int) = (a : Int) - 55 := by omega
  have HT := Lib.hid (fun W h => take_c g s (a - 55) hs W h)
  have H := Lib.hid h
  clear h
  rw [hi2] at HT
  have hB : bodyP a s = match tk (a - 55) s with
    | none => none
    | some (n, r) => if smallL n = true ∧ 55 < val n then tk (val n) r else none := by unfold bodyP; rw [if_neg (by omega)]; rfl
  have HK := Lib.hid (fun x y h => tk_length (n := a - 55) (s := s) (a := x) (b := y) h)
  rw [hB]
  clear hB
  cases hk : tk (a - 55) s with
  | none =>
    rw [hk] at HT
    clear hk hi2
    go_enter Try.func53, Try.ntmps53
    go_wp2_with (go_at_call 51; refine (HT.out _ H.out).mono ?_; rintro e w1 ⟨ho, rfl⟩; have HO := Lib.hid ho; clear ho)
    exact ⟨rfl, HO.out, rfl⟩
  | some x =>
    obtain ⟨y, z⟩ := x
    have hl := HK.out _ _ hk
    rw [hk] at HT
    clear hk hi2
    have hzl := Lib.hid (show z.length < 9223372036854775808 by omega)
    have hy8 := Lib.hid (show y.length ≤ 8 by omega)
    clear hl
    show Calls _ _ _ _ (RdR g w (if smallL y = true ∧ 55 < val y then tk (val y) z else none))
    by_cases hsm : smallL y = true
    · have hh : y.head? ≠ some 0 := by
        unfold smallL at hsm
        simpa [hy8.out] using hsm
      have hv : val y < 18446744073709551616 := Nat.lt_of_lt_of_le (val_lt y) (Nat.le_trans (Nat.pow_le_pow_right (by decide) hy8.out) (by decide))
      have HS := Lib.hid (fun W => small_ok_c y (.slice none 0 0) hy8.out hh W)
      have HT2 := Lib.hid (fun W h => take_c g z (val y) hzl.out W h)
      clear hh
      generalize val y = v at *
      by_cases h55 : 55 < v
      · have hvi : (55 : Int) < (v : Int) := by omega
        rw [if_pos ⟨hsm, h55⟩]
        clear hsm
        cases hk2 : tk v z with
        | none =>
          rw [hk2] at HT2
          clear hk2
          go_enter Try.func53, Try.ntmps53
          go_wp2_with (first
            | (go_at_call 51; refine (HT.out _ H.out).mono ?_; rintro e w1 ⟨ho, rfl, hr⟩; have HO := Lib.hid (And.intro ho hr); clear ho hr HT; generalize str y = x at *)
            | (go_at_call 23; refine (text_c _ _).mono ?_; rintro e w2 ⟨rfl, hb⟩; have HO2 := Lib.hid hb; clear hb; unfold textV)
            | (go_at_call 12; refine (HS.out _).mono ?_; rintro e w3 ⟨rfl, hb⟩; have HO3 := Lib.hid hb; clear hb)
            | (go_at_call 40; refine (must_ok _).mono ?_; rintro e w4 ⟨rfl, rfl⟩))
          refine (HT2.out _ ((HO.out.2.later HO2.out).later HO3.out)).mono ?_
          rintro e w5 ⟨ho5, rfl⟩
          exact ⟨rfl, ((HO.out.1.thenB HO2.out).thenB HO3.out).thenO ho5, rfl⟩
        | some q =>
          obtain ⟨p, q⟩ := q
          rw [hk2] at HT2
          clear hk2
          go_enter Try.func53, Try.ntmps53
          go_wp2_with (first
            | (go_at_call 51; refine (HT.out _ H.out).mono ?_; rintro e w1 ⟨ho, rfl, hr⟩; have HO := Lib.hid (And.intro ho hr); clear ho hr HT; generalize str y = x at *)
            | (go_at_call 23; refine (text_c _ _).mono ?_; rintro e w2 ⟨rfl, hb⟩; have HO2 := Lib.hid hb; clear hb; unfold textV)
            | (go_at_call 12; refine (HS.out _).mono ?_; rintro e w3 ⟨rfl, hb⟩; have HO3 := Lib.hid hb; clear hb)
            | (go_at_call 40; refine (must_ok _).mono ?_; rintro e w4 ⟨rfl, rfl⟩))
          refine (HT2.out _ ((HO.out.2.later HO2.out).later HO3.out)).mono ?_
          rintro e w5 ⟨ho5, rfl, hr5⟩
          have HO5 := Lib.hid (And.intro ho5 hr5)
          clear ho5 hr5
          go_wp2_with fail
          go_ret
          exact ⟨((HO.out.1.thenB HO2.out).thenB HO3.out).thenO HO5.out.1, rfl, HO5.out.2⟩
      · have hvi : decide ((55 : Int) < (v : Int)) = false := decide_eq_false (by omega)
        rw [if_neg fun h => h55 h.2]
        clear hsm HT2
        go_enter Try.func53, Try.ntmps53
        go_wp2_with (first
          | (go_at_call 51; refine (HT.out _ H.out).mono ?_; rintro e w1 ⟨ho, rfl, hr⟩; have HO := Lib.hid (And.intro ho hr); clear ho hr HT; generalize str y = x at *)
          | (go_at_call 23; refine (text_c _ _).mono ?_; rintro e w2 ⟨rfl, hb⟩; have HO2 := Lib.hid hb; clear hb; unfold textV)
          | (go_at_call 12; refine (HS.out _).mono ?_; rintro e w3 ⟨rfl, hb⟩; have HO3 := Lib.hid hb; clear hb)
          | (go_at_call 40; refine (must_no _).mono ?_; rintro e w4 ⟨rfl, rfl⟩))
        exact ⟨rfl, (HO.out.1.thenB HO2.out).thenB HO3.out, rfl⟩
    · have h0 : ∃ r, y = 0 :: r := by
        rcases y with _ | ⟨b, r⟩
        · simp [smallL] at hsm
        · refine ⟨r, ?_⟩
          have h1 : ¬ (smallL (b :: r) = true) := hsm
          have h8 := hy8.out
          simp only [List.length_cons] at h8
          simp [smallL, h8] at h1
          exact h1 ▸ rfl
      rw [if_neg fun h => hsm h.1]
      have HS : Hid (∀ W, Calls Try.prog 12 #[.agg #[.bool false, .string (str y), .slice none 0 0]] W fun e w' => e = .returned (.tuple #[.int .u64 0, .bool false]) ∧ Below W.heap.size W w') := by
        obtain ⟨r, rfl⟩ := h0
        exact Lib.hid fun W => small_zero_c (str (0 :: r)) _ (by rw [str_size]; exact hy8.out) (by simp [str_size]) (by rw [str_get]; rfl) W
      clear hsm h0
      go_enter Try.func53, Try.ntmps53
      go_wp2_with (first
        | (go_at_call 51; refine (HT.out _ H.out).mono ?_; rintro e w1 ⟨ho, rfl, hr⟩; have HO := Lib.hid (And.intro ho hr); clear ho hr HT; generalize str y = x at *)
        | (go_at_call 23; refine (text_c _ _).mono ?_; rintro e w2 ⟨rfl, hb⟩; have HO2 := Lib.hid hb; clear hb; unfold textV)
        | (go_at_call 12; refine (HS.out _).mono ?_; rintro e w3 ⟨rfl, hb⟩; have HO3 := Lib.hid hb; clear hb)
        | (go_at_call 40; refine (must_no _).mono ?_; rintro e w4 ⟨rfl, rfl⟩))
      exact ⟨rfl, (HO.out.1.thenB HO2.out).thenB HO3.out, rfl⟩
theorem body_c (g : Nat) (s : List UInt8) (a : Nat) (ha : a < 64) (hs : s.length < 9223372036854775808) (w : World) (h : Rd g s w) :
    Calls Try.prog 53 #[.pointer (some ⟨g, 0, none⟩), .int .u8 a] w (RdR g w (bodyP a s)) := by
  by_cases h55 : a ≤ 55
  · have := body_short g s a h55 hs w h
    rwa [show bodyP a s = tk a s from if_pos h55]
  · exact body_long g s a (by omega) ha hs w h
end Go.Proofs.Ytgaaalacoeainaa
