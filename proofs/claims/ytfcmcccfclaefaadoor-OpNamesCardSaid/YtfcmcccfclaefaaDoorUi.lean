/- Two digits for each byte. -/
import Derived.Test.YtfcmcccfclaefaaDoorUh
namespace Go.Proofs.YtfcmcccfclaefaaDoor
open Go.RowKit Go.Maps Go.Shelf Mp

def hexD (n : Nat) : UInt8 := if n < 10 then UInt8.ofNat (48 + n) else UInt8.ofNat (87 + n)
def hexT (l : Nm) : Nm := l.flatMap fun c => [hexD (c.toNat / 16), hexD (c.toNat % 16)]
theorem hexT_app (a b : Nm) : hexT (a ++ b) = hexT a ++ hexT b := by simp [hexT]
theorem hexT_len (l : Nm) : (hexT l).length = 2 * l.length := by
  induction l with
  | nil => rfl
  | cons c l ih =>
    rw [show c :: l = [c] ++ l from rfl, hexT_app, List.length_append, ih, List.length_append, List.length_singleton]
    show 2 + _ = _
    omega
theorem dig_all : (List.range 16).all (fun n => decide (({ data := #[48, 49, 50, 51, 52, 53, 54, 55, 56, 57, 97, 98, 99, 100, 101, 102] } : ByteArray).data[n]? = some (hexD n))) = true := by decide +kernel
theorem dig_at {n : Nat} (h : n < ({ data := #[48, 49, 50, 51, 52, 53, 54, 55, 56, 57, 97, 98, 99, 100, 101, 102] } : ByteArray).size) : ({ data := #[48, 49, 50, 51, 52, 53, 54, 55, 56, 57, 97, 98, 99, 100, 101, 102] } : ByteArray)[n] = hexD n := by
  have h1 := of_decide_eq_true (List.all_eq_true.1 dig_all n (List.mem_range.2 h))
  rw [Array.getElem?_eq_getElem h] at h1
  exact Option.some.inj h1
theorem str_at {l : Nm} {i : Nat} (h : i < (str l).size) : (str l)[i] = l[i]'(by rw [str_size] at h; exact h) := rfl
theorem hexT_snoc {l : Nm} {i : Nat} (h : i < l.length) : hexT (l.take (i + 1)) = hexT (l.take i) ++ [hexD (l[i].toNat / 16)] ++ [hexD (l[i].toNat % 16)] := by
  rw [List.take_add_one, List.getElem?_eq_getElem h, hexT_app]
  simp [hexT]
set_option maxRecDepth 100000 in
set_option maxHeartbeats 4000000 in
theorem sixteenths_c (l : Nm) (hl : l.length ≤ 1000) (W : World) : Calls Tryd.prog 42 #[.string (str l)] W fun e W' => e = .returned (.string (str (hexT l))) ∧ Below W.heap.size W W' := by
  have hsz : (str l).size = l.length := str_size l
  have CG := Lib.hid (Tryd.Builder_Grow_fresh W.heap.size W.heap.size (2 * l.length) (W.alloc (.cells #[.pointer none, .slice none 0 0] 66)) (Nat.le_refl _) (heap_alloc_new _ _) (by simp) (by omega))
  rw [show ((2 * l.length : Nat) : Int) = 2 * (l.length : Int) from by omega] at CG
  have HL := Lib.hid hl
  obtain ⟨s, hs⟩ : ∃ s, s = str l := ⟨_, rfl⟩
  obtain ⟨N, hN⟩ : ∃ N, N = l.length := ⟨_, rfl⟩
  rw [← hs, ← hN] at hsz
  rw [← hN] at CG
  rw [← hs]
  have HS := Lib.hid (And.intro hs hN)
  have hN2 : (N : Int) ≤ 1000 := by omega
  clear hs hN hl
  go_enter Tryd.func42, Tryd.ntmps42
  go_wp2_with fail
  refine CG.out.mono ?_
  rintro e V1 ⟨rfl, h1, h2⟩
  have H1 := Lib.hid (And.intro (show Bd W.heap.size W.heap.size [] V1 from h1) (((Below.refl _ W).alloc (Nat.le_refl _) (.cells #[.pointer none, .slice none 0 0] 66)).trans h2))
  clear h1 h2 CG
  go_wp2_with fail
  go_loopw [11] (fun iv wr => ∃ i : Nat, i ≤ N ∧ iv = .int .i64 (i : Nat) ∧ Bd W.heap.size W.heap.size (hexT (l.take i)) wr ∧ Below W.heap.size W wr) (fun iv _ => N - (intOf iv).toNat)
  case atStart => exact ⟨0, Nat.zero_le _, rfl, H1.out.1, H1.out.2⟩
  case round =>
    obtain ⟨i, hi, rfl, h, hb⟩ := hrel
    have HX := Lib.hid (And.intro h hb)
    clear h hb H1
    by_cases hlt : i < N
    · have hlt2 : (i : Int) < (N : Int) := by omega
      have hq : i < s.size := by omega
      have hq2 := (s[i]'hq).toNat_lt
      have hd1 : (((s[i]'hq).toNat : Nat) : Int) / 16 < 16 := by omega
      have hd2 : (((s[i]'hq).toNat : Nat) : Int) % 16 < 16 := by omega
      go_wp2_with fail
      refine (wbyte_c HX.out.1 _ (by have := HL.out; rw [hexT_len, List.length_take]; omega) HX.out.2.size).mono ?_
      rintro e V2 ⟨rfl, h1, h2⟩
      rw [dig_at] at h1
      have H2 := Lib.hid (And.intro h1 (HX.out.2.trans h2))
      clear h1 h2
      go_wp2_with fail
      refine (wbyte_c H2.out.1 _ (by have := HL.out; rw [List.length_append, hexT_len, List.length_take, List.length_singleton]; omega) H2.out.2.size).mono ?_
      rintro e V3 ⟨rfl, h1, h2⟩
      rw [dig_at] at h1
      have h3 : Bd W.heap.size W.heap.size (hexT (l.take (i + 1))) V3 := by
        have e : ∀ (h : i < s.size), s[i] = l[i]'(by rw [← HS.out.2]; exact hlt) := by
          obtain ⟨rfl, _⟩ := HS.out
          intro h
          exact str_at h
        rw [hexT_snoc (by rw [← HS.out.2]; exact hlt), ← e hq]
        exact h1
      have H3 := Lib.hid (And.intro h3 (H2.out.2.trans h2))
      clear h1 h2 h3 H2
      go_wp2_with fail
      go_roundw
      case rel => exact ⟨i + 1, by omega, by go_num, H3.out⟩
      case measure => simp [intOf]; omega
    · obtain rfl : i = N := by omega
      go_wp2_with fail
      refine (Tryd.Builder_String_any W.heap.size W.heap.size (hexT l) wr ?_ HX.out.2.size).mono ?_
      · have h := HX.out.1
        rw [HS.out.2, List.take_length] at h
        exact Or.inr h
      rintro e V2 ⟨rfl, h2⟩
      have H2 := Lib.hid h2
      clear h2
      go_wp2_with fail
      go_ret
      exact ⟨rfl, HX.out.2.trans H2.out⟩
end Go.Proofs.YtfcmcccfclaefaaDoor
