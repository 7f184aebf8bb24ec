/- The shower. -/
import Derived.Test.YtgaaalacoeainaaLo
import Derived.StillTailTactics
namespace Go.Proofs.Ytgaaalacoeainaa
open Go.RowKit

/-- The shower in block b: it has written s.1; s.2 stands ahead of the next item. -/
def ShS (b B : Nat) (s : List UInt8 × List UInt8) (W : World) : Prop := BdS 73 b B s.1 (.string (str s.2)) W
theorem str_lit1 (a : List UInt8) (c : UInt8) : str a ++ (⟨#[c]⟩ : ByteArray) = str (a ++ [c]) := by rw [← str_append]; rfl
set_option maxRecDepth 100000 in
set_option maxHeartbeats 2000000 in
theorem shbegin_c {b B : Nat} {out gap : List UInt8} {W : World} (h : ShS b B (out, gap) W) (hg : gap.length ≤ 1) (hn : out.length ≤ 100000000) (hB : B ≤ W.heap.size) :
    Calls Try.prog 35 #[.pointer (some ⟨b, 0, none⟩)] W fun e W' => e = .returned (.tuple #[]) ∧ ShS b B (out ++ (gap ++ [91]), []) W' ∧ Chg (BdF b W) (BdF b W') W W' := by
  have h1 : BdS 73 b B out (.string (str gap)) W := h
  obtain ⟨h2, h2c⟩ := h1.kept (W' := W.drew) (fun _ _ => rfl)
  have H := Lib.hid h1
  have HW := Lib.hid (wstring_c (Or.inr rfl) h2 (gap ++ [91]) (by simp; omega) hB)
  rw [← str_lit1] at HW
  have c2 : W.cell? ⟨b, 2, none⟩ = some (.string (str gap)) := by
    obtain ⟨pv, v, h1, _⟩ := h1.row
    exact cell_of h1 2
  have hs := str_size gap
  clear h h1 h2
  generalize str gap = x at *
  have hx : ¬ 9223372036854775807 < x.size + 1 := by omega
  have hc0 : ∀ k, BdF b W.drew k ↔ BdF b W k := h2c
  have HC0 := Lib.hid hc0
  clear h2c hc0 hs hg hn
  go_enter Try.func35, Try.ntmps35
  go_wp2_with fail
  go_still_tail 8, (by kernel_rfl)
  change wpList _ _ _ _ _ W.drew
  go_wp2_with (go_at_call 49; refine HW.out.mono ?_; rintro e W1 ⟨⟨n, rfl⟩, h2, h3⟩; have HX := Lib.hid (h2.setX (.string ⟨#[]⟩)); have H1 := Lib.hid (show Chg (BdF b W) (BdF b W1) W W1 from ⟨h3.os, h3.tape, h3.output, h3.size, fun k hk hn => h3.block k hk (fun hf => hn ((HC0.out k).1 hf)), fun k hk => (h3.new k hk).imp (fun hf => (HC0.out k).1 hf) id⟩); have c3 : W1.cell? ⟨b, 2, none⟩ = some (.string x) := (by obtain ⟨pv, v, h1, _⟩ := h2.row; exact cell_of h1 2); have z3 : W1.frozen? ⟨b, 2, none⟩ = false := (by obtain ⟨pv, v, h1, _⟩ := h2.row; exact free_of h1 2); clear h2 h3)
  go_end0
  exact ⟨rfl, HX.out.1, H1.out.trans HX.out.2⟩
set_option maxRecDepth 100000 in
set_option maxHeartbeats 2000000 in
theorem shend_c {b B : Nat} {out gap : List UInt8} {W : World} (h : ShS b B (out, gap) W) (hn : out.length ≤ 100000000) (hB : B ≤ W.heap.size) :
    Calls Try.prog 37 #[.pointer (some ⟨b, 0, none⟩)] W fun e W' => e = .returned (.tuple #[]) ∧ ShS b B (out ++ [93], [32]) W' ∧ Chg (BdF b W) (BdF b W') W W' := by
  have h1 : BdS 73 b B out (.string (str gap)) W := h
  have HW := Lib.hid (show Calls Try.prog 49 #[.pointer (some ⟨b, 0, none⟩), .string ⟨#[93]⟩] W _ from wstring_c (Or.inr rfl) h1 [93] (by simp; omega) hB)
  clear h h1 hn
  generalize str gap = x at *
  go_enter Try.func37, Try.ntmps37
  go_wp2_with (go_at_call 49; refine HW.out.mono ?_; rintro e W1 ⟨⟨n, rfl⟩, h2, h3⟩; have HX := Lib.hid (h2.setX (.string ⟨#[32]⟩)); have H1 := Lib.hid h3; have c3 : W1.cell? ⟨b, 2, none⟩ = some (.string x) := (by obtain ⟨pv, v, h1, _⟩ := h2.row; exact cell_of h1 2); have z3 : W1.frozen? ⟨b, 2, none⟩ = false := (by obtain ⟨pv, v, h1, _⟩ := h2.row; exact free_of h1 2); clear h2 h3)
  go_end0
  exact ⟨rfl, HX.out.1, H1.out.trans HX.out.2⟩
def hexS : ByteArray := ⟨#[48, 49, 50, 51, 52, 53, 54, 55, 56, 57, 97, 98, 99, 100, 101, 102]⟩
theorem hexS_get : ∀ d (h : d < hexS.size), hexS[d]'h = hexD d := by
  intro d h
  have hs : hexS.size = 16 := rfl
  have : d = 0 ∨ d = 1 ∨ d = 2 ∨ d = 3 ∨ d = 4 ∨ d = 5 ∨ d = 6 ∨ d = 7 ∨ d = 8 ∨ d = 9 ∨ d = 10 ∨ d = 11 ∨ d = 12 ∨ d = 13 ∨ d = 14 ∨ d = 15 := by omega
  rcases this with rfl | rfl | rfl | rfl | rfl | rfl | rfl | rfl | rfl | rfl | rfl | rfl | rfl | rfl | rfl | rfl <;> rfl
theorem hexS_at (d : Nat) (hd : d < 16) (W : World) : (Instr.index 9 (.string hexS) (.int .u8 (d : Nat))).run Try.prog W = .ok (.int .u8 ((hexD d).toNat : Nat)) W := by
  have hs : hexS.size = 16 := rfl
  rw [run_index_string W _ _ _ _ Try.underlying9, dif_pos ⟨by omega, by omega⟩]
  simp only [Int.toNat_natCast]
  rw [hexS_get]
theorem hexL_snoc (a : List UInt8) (c : UInt8) : hexL (a ++ [c]) = (hexL a ++ [hexD (c.toNat / 16)]) ++ [hexD (c.toNat % 16)] := by simp [hexL]
theorem hexL_len (a : List UInt8) : (hexL a).length = 2 * a.length := by
  induction a with
  | nil => rfl
  | cons c a ih => rw [show hexL (c :: a) = hexD (c.toNat / 16) :: hexD (c.toNat % 16) :: hexL a from rfl]; simp [ih]; omega
theorem ShS.gap {b B : Nat} {out gap : List UInt8} {W : World} (h : ShS b B (out, gap) W) : W.cell? ⟨b, 2, none⟩ = some (.string (str gap)) ∧ W.frozen? ⟨b, 2, none⟩ = false := by
  obtain ⟨pv, v, h1, _⟩ := h.row
  exact ⟨cell_of h1 2, free_of h1 2⟩
theorem ShS.drew {b B : Nat} {s : List UInt8 × List UInt8} {W : World} (h : ShS b B s W) : ShS b B s W.drew ∧ ∀ k, BdF b W.drew k ↔ BdF b W k := BdS.kept (W' := W.drew) h (fun _ _ => rfl)
theorem Chg.drewL {F : World → Nat → Prop} {W W1 : World} (h : Chg (F W.drew) (F W1) W.drew W1) (hf : ∀ k, F W.drew k ↔ F W k) : Chg (F W) (F W1) W W1 :=
  ⟨h.os, h.tape, h.output, h.size, fun k hk hn => h.block k hk (fun hh => hn ((hf k).1 hh)), fun k hk => (h.new k hk).imp (fun hh => (hf k).1 hh) id⟩
theorem and_15 (n : Nat) (h : n < 256) : Go.bits .and .u8 (n : Int) 15 = (n : Int) % 16 := by
  have : ∀ m : Fin 256, Go.bits .and .u8 ((m.val : Nat) : Int) 15 = ((m.val : Nat) : Int) % 16 := by decide +kernel
  exact this ⟨n, h⟩
set_option maxRecDepth 100000 in
set_option maxHeartbeats 4000000 in
theorem shtext_c {b B : Nat} {out gap : List UInt8} {W : World} (h : ShS b B (out, gap) W) (t : List UInt8) (hg : gap.length ≤ 1) (hn : out.length + 2 * t.length ≤ 100000000) (hB : B ≤ W.heap.size) :
    Calls Try.prog 36 #[.pointer (some ⟨b, 0, none⟩), .string (str t)] W fun e W' => e = .returned (.tuple #[]) ∧ ShS b B (out ++ (gap ++ [34]) ++ hexL t ++ [34], [32]) W' ∧ Chg (BdF b W) (BdF b W') W W' := by
  obtain ⟨h2, h2c⟩ := h.drew
  have HW := Lib.hid (wstring_c (Or.inr rfl) h2 (gap ++ [34]) (by simp; omega) hB)
  rw [← str_lit1] at HW
  have c2 := h.gap.1
  have hs := str_size gap
  have HC0 := Lib.hid h2c
  have ht := str_size t
  have HXI : ∀ k, k < t.length → ∃ c : UInt8, t.take (k + 1) = t.take k ++ [c] ∧ ∀ W, (Instr.index 9 (.string (str t)) (.int .i64 (k : Nat))).run Try.prog W = .ok (.int .u8 (c.toNat : Nat)) W := fun k hk => by
    refine ⟨t[k]'hk, List.take_succ_eq_append_getElem hk, fun W => ?_⟩
    rw [run_index_string W _ _ _ _ Try.underlying9, dif_pos ⟨by omega, by omega⟩]
    simp [str_get]
  replace HXI := Lib.hid HXI
  have HTT := Lib.hid (show t.take t.length = t from List.take_length)
  clear h h2 h2c
  generalize str gap = x at *
  generalize str t = y at *
  have hx : ¬ 9223372036854775807 < x.size + 1 := by omega
  clear hs
  go_enter Try.func36, Try.ntmps36
  go_wp2_with fail
  go_still_tail 8, (by kernel_rfl)
  change wpList _ _ _ _ _ W.drew
  go_wp2_with (go_at_call 49; refine HW.out.mono ?_; rintro e W1 ⟨⟨n, rfl⟩, h2, h3⟩; have H1 := Lib.hid (And.intro h2 (Chg.drewL (F := BdF b) h3 HC0.out)); clear h2 h3 HW)
  have H2 := Lib.hid (show BdS 73 b B (out ++ (gap ++ [34]) ++ hexL (t.take 0)) (.string x) W1 ∧ Chg (BdF b W) (BdF b W1) W W1 from ⟨by simpa [hexL] using H1.out.1, H1.out.2⟩)
  clear H1
  go_loopw [16] (fun i wr => ∃ k : Nat, i = .int .i64 k ∧ k ≤ t.length ∧ BdS 73 b B (out ++ (gap ++ [34]) ++ hexL (t.take k)) (.string x) wr ∧ Chg (BdF b W) (BdF b wr) W wr) (fun i _ => t.length - (intOf i).toNat)
  case atStart => exact ⟨0, rfl, by omega, H2.out⟩
  case round =>
    clear H2
    obtain ⟨k, rfl, hk, hb, hc⟩ := hrel
    have HB := Lib.hid (And.intro hb hc)
    clear hb hc
    by_cases hlt : k < t.length
    · have hli : (k : Int) < (t.length : Int) := by omega
      obtain ⟨c, hc1, hc2⟩ := HXI.out k hlt
      have HK := Lib.hid hc1
      have hcl := c.toNat_lt
      have HA1 := Lib.hid (fun V (h : BdS 73 b B (out ++ (gap ++ [34]) ++ hexL (t.take k)) (.string x) V) hB => wbyte_c (Or.inr rfl) h (hexD (c.toNat / 16)) (by simp [hexL_len]; omega) hB)
      have HA2 := Lib.hid (fun V (h : BdS 73 b B (out ++ (gap ++ [34]) ++ hexL (t.take k) ++ [hexD (c.toNat / 16)]) (.string x) V) hB => wbyte_c (Or.inr rfl) h (hexD (c.toNat % 16)) (by simp [hexL_len]; omega) hB)
      have hi1 := hexS_at (c.toNat / 16) (by omega)
      have hi2 := hexS_at (c.toNat % 16) (by omega)
      have HZ := Lib.hid (show out ++ (gap ++ [34]) ++ hexL (t.take (k + 1)) = out ++ (gap ++ [34]) ++ hexL (t.take k) ++ [hexD (c.toNat / 16)] ++ [hexD (c.toNat % 16)] by rw [hc1, hexL_snoc]; simp)
      unfold hexS at hi1 hi2
      rw [show ((c.toNat / 16 : Nat) : Int) = (c.toNat : Int) / 16 by omega] at hi1
      rw [show ((c.toNat % 16 : Nat) : Int) = (c.toNat : Int) % 16 by omega] at hi2
      have hand := and_15 c.toNat (by omega)
      clear hc1
      generalize (hexD (c.toNat / 16)).toNat = d1 at *
      generalize (hexD (c.toNat % 16)).toNat = d2 at *
      generalize c.toNat = cn at *
      go_wp2_with fail
      go_still_tail 8, (by kernel_rfl)
      change wpList _ _ _ _ _ wr.drew
      have hdr := BdS.kept (W' := wr.drew) HB.out.1 (fun _ _ => rfl)
      have HD := Lib.hid hdr
      clear hdr
      go_wp2_with (go_at_call 50; refine (HA1.out _ HD.out.1 (Nat.le_trans hB HB.out.2.size)).mono ?_; rintro e W2 ⟨rfl, h2, h3⟩; have H2 := Lib.hid (And.intro h2 (HB.out.2.trans (Chg.drewL (F := BdF b) h3 HD.out.2))); clear h2 h3 HA1 HD)
      go_still_tail 8, (by kernel_rfl)
      change wpList _ _ _ _ _ W2.drew
      have hdr := BdS.kept (W' := W2.drew) H2.out.1 (fun _ _ => rfl)
      have HD := Lib.hid hdr
      clear hdr
      go_wp2_with (go_at_call 50; refine (HA2.out _ HD.out.1 (Nat.le_trans hB H2.out.2.size)).mono ?_; rintro e W3 ⟨rfl, h2, h3⟩; have H3 := Lib.hid (And.intro h2 (H2.out.2.trans (Chg.drewL (F := BdF b) h3 HD.out.2))); clear h2 h3 HA2 HD)
      refine ⟨⟨k + 1, by simp, by omega, ?_⟩, by simp [intOf]; omega⟩
      rw [HZ.out]
      exact H3.out
    · obtain rfl : k = t.length := by omega
      have HE := Lib.hid (show Calls Try.prog 49 #[.pointer (some ⟨b, 0, none⟩), .string ⟨#[34]⟩] wr _ from wstring_c (Or.inr rfl) HB.out.1 [34] (by simp [hexL_len]; omega) (Nat.le_trans hB HB.out.2.size))
      rw [HTT.out] at HE
      go_wp2_with (go_at_call 49; refine HE.out.mono ?_; rintro e W2 ⟨⟨m, rfl⟩, h2, h3⟩; have HX := Lib.hid (h2.setX (.string ⟨#[32]⟩)); have H1 := Lib.hid h3; have c3 : W2.cell? ⟨b, 2, none⟩ = some (.string x) := (by obtain ⟨pv, v, h1, _⟩ := h2.row; exact cell_of h1 2); have z3 : W2.frozen? ⟨b, 2, none⟩ = false := (by obtain ⟨pv, v, h1, _⟩ := h2.row; exact free_of h1 2); clear h2 h3)
      go_end0
      exact ⟨rfl, HX.out.1, HB.out.2.trans (H1.out.trans HX.out.2)⟩
end Go.Proofs.Ytgaaalacoeainaa
