/- The reference's take. -/
import Derived.Test.YtgaaalacoeainaaLr8
namespace Go.Proofs.Ytgaaalacoeainaa
open Go.RowKit

theorem str_cut (s : List UInt8) (i j : Nat) : (str s).extract i j = str ((s.drop i).take (j - i)) := by
  apply ByteArray.ext
  simp [str, ByteArray.data_extract]
theorem bodyP_55 {a : Nat} {r x r' : List UInt8} (h : bodyP a r = some (x, r')) (ha : ¬ a ≤ 55) : 55 < x.length := by
  unfold bodyP at h
  rw [if_neg ha] at h
  cases hk : tk (a - 55) r with
  | none => rw [hk] at h; cases h
  | some q =>
    obtain ⟨n, q⟩ := q
    rw [hk] at h
    simp only at h
    split at h
    · next h1 =>
      have := tk_length h
      omega
    · cases h
/-- What a call of take hands back. -/
def RTakeR (s : List UInt8) (o : Option (Fo × List UInt8)) (w : World) (e : Ending) (w' : World) : Prop :=
  Below w.heap.size w w' ∧ match o with
    | none => e = .returned (.tuple #[.agg #[.bool false, .string ⟨#[]⟩, .slice none 0 0], .int .i64 0, .bool false])
    | some (f, r) => ∃ x v, f = It.fo x .nil ∧ ItV (fun k => w.heap.size ≤ k ∧ k < w'.heap.size) x v w' ∧ e = .returned (.tuple #[v, .int .i64 ((s.length - r.length : Nat) : Int), .bool true]) ∧ s.drop (s.length - r.length) = r
def RTakeC (d : Nat) : Prop := ∀ (n : Nat) (s : List UInt8) (w : World), n + d = 65 → s.length ≤ 70000 → Calls Try.prog 41 #[.string (str s), .int .i64 n] w (RTakeR s (itemP d s) w)
set_option maxRecDepth 100000 in
set_option maxHeartbeats 4000000 in
theorem rtake_none (s : List UInt8) (n : Nat) (w : World) (HS : ∀ V, Calls Try.prog 55 #[.string (str s)] V fun e w' => (∃ p q : Int, e = .returned (.tuple #[.int .i64 p, .int .i64 q, .bool false])) ∧ w' = V) :
    Calls Try.prog 41 #[.string (str s), .int .i64 n] w (RTakeR s none w) := by
  replace HS := Lib.hid HS
  have HB := Lib.hid (bel_al w (.cells #[.bool false, .string ⟨#[]⟩, .slice none 0 0] 35))
  generalize str s = t at *
  go_enter Try.func41, Try.ntmps41
  go_wp2_with fail
  go_at_call 55
  refine (HS.out _).mono ?_
  rintro e w1 ⟨⟨p, q, rfl⟩, rfl⟩
  clear HS
  go_wp2_with fail
  exact bodyPost_ret (v := .tuple #[.agg #[.bool false, .string ⟨#[]⟩, .slice none 0 0], .int .i64 0, .bool false]) (by simp [results, Try.results41, go_sem]) rfl ⟨HB.out, rfl⟩
set_option maxRecDepth 100000 in
set_option maxHeartbeats 4000000 in
theorem rtake_deep (s : List UInt8) (n : Nat) (hn : 64 < n) (w : World) (HS : ∀ V, Calls Try.prog 55 #[.string (str s)] V fun e w' => (∃ (p q : Int) (ok : Bool), e = .returned (.tuple #[.int .i64 p, .int .i64 q, .bool ok])) ∧ w' = V) :
    Calls Try.prog 41 #[.string (str s), .int .i64 n] w (RTakeR s none w) := by
  replace HS := Lib.hid HS
  have hni : (64 : Int) < (n : Int) := by omega
  have HB := Lib.hid (bel_al w (.cells #[.bool false, .string ⟨#[]⟩, .slice none 0 0] 35))
  generalize str s = t at *
  go_enter Try.func41, Try.ntmps41
  go_wp2_with fail
  go_at_call 55
  refine (HS.out _).mono ?_
  rintro e w1 ⟨⟨p, q, ok, rfl⟩, rfl⟩
  clear HS
  cases ok
  · go_wp2_with fail
    exact bodyPost_ret (v := .tuple #[.agg #[.bool false, .string ⟨#[]⟩, .slice none 0 0], .int .i64 0, .bool false]) (by simp [results, Try.results41, go_sem]) rfl ⟨HB.out, rfl⟩
  · go_wp2_with fail
    exact bodyPost_ret (v := .tuple #[.agg #[.bool false, .string ⟨#[]⟩, .slice none 0 0], .int .i64 0, .bool false]) (by simp [results, Try.results41, go_sem]) rfl ⟨HB.out, rfl⟩
theorem rcut (s x r : List UInt8) (h : Nat) (hh : h ≤ s.length) (hd : s.drop h = x ++ r) (V : World) : (Instr.slice 9 (.string (str s)) (some (.int .i64 (h : Nat))) (some (.int .i64 ((h + x.length : Nat) : Int))) none).run Try.prog V = .ok (.string (str x)) V := by
  have hl := congrArg List.length hd
  rw [List.length_drop, List.length_append] at hl
  rw [run_slice_string (P := Try.prog) V 9 (str s) .i64 .i64 (h : Int) ((h + x.length : Nat) : Int) Try.underlying9 (by omega) (by omega) (by rw [str_size]; omega)]
  rw [Int.toNat_natCast, Int.toNat_natCast, str_cut, hd, show h + x.length - h = x.length by omega, List.take_left']
  rfl
set_option maxRecDepth 100000 in
set_option maxHeartbeats 4000000 in
theorem rtake_text (b : UInt8) (r x r' : List UInt8) (h n : Nat) (hb : b.toNat < 192) (hn : n ≤ 64) (hl : (b :: r).length ≤ 70000) (hh : h ≤ (b :: r).length) (hd : (b :: r).drop h = x ++ r') (w : World)
    (HS : ∀ V, Calls Try.prog 55 #[.string (str (b :: r))] V fun e w' => e = .returned (.tuple #[.int .i64 (h : Nat), .int .i64 (x.length : Nat), .bool true]) ∧ w' = V) :
    Calls Try.prog 41 #[.string (str (b :: r)), .int .i64 n] w (RTakeR (b :: r) (if h = 1 ∧ bareL x = true then none else some (.text x .nil, r')) w) := by
  replace HS := Lib.hid HS
  have hni : ¬ (64 : Int) < (n : Int) := by omega
  have hbi : (b.toNat : Int) < 192 := by omega
  have hix := rindex0 b r
  have hcut := rcut (b :: r) x r' h hh hd
  have hlen : (b :: r).length = h + x.length + r'.length := by
    have := congrArg List.length hd
    rw [List.length_drop, List.length_append] at this; omega
  have hMs : (h : Int) + (x.length : Int) = ((h + x.length : Nat) : Int) := by omega
  have hdr : (b :: r).drop ((b :: r).length - r'.length) = r' := by
    rw [show (b :: r).length - r'.length = h + x.length by omega, ← List.drop_drop, hd]; simp
  have hM : (b :: r).length - r'.length = h + x.length := by omega
  have hMb : h + x.length ≤ 70000 := by omega
  by_cases hc : h = 1 ∧ bareL x = true
  · rw [if_pos hc]
    obtain ⟨c, rfl, hc1⟩ : ∃ c, x = [c] ∧ c.toNat < 128 := by
      rcases x with _ | ⟨c, _ | ⟨d, q⟩⟩
      · cases hc.2
      · exact ⟨c, rfl, by simpa [bareL] using hc.2⟩
      · cases hc.2
    obtain ⟨rfl, _⟩ := hc
    have HB := Lib.hid (bel_al w (.cells #[.bool false, .string ⟨#[]⟩, .slice none 0 0] 35))
    have hixc := rindex0 c []
    have hci : (c.toNat : Int) < 128 := by omega
    have hcut' : ∀ V, (Instr.slice 9 (.string (str (b :: r))) (some (.int .i64 1)) (some (.int .i64 2)) none).run Try.prog V = .ok (.string (str [c])) V := hcut
    have HS' := Lib.hid (show ∀ V, Calls Try.prog 55 #[.string (str (b :: r))] V fun e w' => e = .returned (.tuple #[.int .i64 1, .int .i64 1, .bool true]) ∧ w' = V from HS.out)
    clear hcut hlen hMs hdr hM hMb hd hl hh HS
    generalize str (b :: r) = t at *
    generalize str [c] = tc at *
    generalize b.toNat = bn at *
    generalize c.toNat = cn at *
    go_enter Try.func41, Try.ntmps41
    go_wp2_with fail
    go_at_call 55
    refine (HS'.out _).mono ?_
    rintro e w1 ⟨rfl, rfl⟩
    clear HS'
    go_wp2_with fail
    exact bodyPost_ret (v := .tuple #[.agg #[.bool false, .string ⟨#[]⟩, .slice none 0 0], .int .i64 0, .bool false]) (by simp [results, Try.results41, go_sem]) rfl ⟨HB.out, rfl⟩
  · rw [if_neg hc]
    have HB := Lib.hid (bel_al w (.cells #[.bool false, .string (str x), .slice none 0 0] 35))
    have HF := Lib.hid (show ∀ w', Below w.heap.size w w' → RTakeR (b :: r) (some (.text x .nil, r')) w (.returned (.tuple #[.agg #[.bool false, .string (str x), .slice none 0 0], .int .i64 ((h + x.length : Nat) : Int), .bool true])) w' from fun w' hb =>
      ⟨hb, .text x, _, rfl, rfl, by rw [hM], hdr⟩)
    have hcond : (((h : Int) == 1) = false ∧ ¬ (h : Int) = 1) ∨ (h = 1 ∧ ((((x.length : Nat) : Int) == 1) = false ∧ ¬ ((x.length : Nat) : Int) = 1)) ∨ (h = 1 ∧ ∃ c, x = [c] ∧ ¬ (c.toNat : Int) < 128) := by
      by_cases h1 : h = 1
      · right
        by_cases hx1 : x.length = 1
        · right
          obtain ⟨c, rfl⟩ := List.length_eq_one_iff.1 hx1
          refine ⟨h1, c, rfl, fun hc1 => hc ⟨h1, ?_⟩⟩
          simp [bareL]; omega
        · left
          exact ⟨h1, by rw [beq_eq_false_iff_ne]; omega, by omega⟩
      · left
        exact ⟨by rw [beq_eq_false_iff_ne]; omega, by omega⟩
    clear hlen hdr hM hd hl hh hc
    rcases hcond with ⟨q1, q2⟩ | ⟨rfl, q1, q2⟩ | ⟨rfl, c, rfl, q1⟩
    · generalize str (b :: r) = t at *
      generalize str x = tx at *
      generalize b.toNat = bn at *
      generalize h + x.length = M at *
      generalize x.length = N at *
      go_enter Try.func41, Try.ntmps41
      go_wp2_with fail
      go_at_call 55
      refine (HS.out _).mono ?_
      rintro e w1 ⟨rfl, rfl⟩
      clear HS
      go_wp2_with fail
      exact bodyPost_ret (v := .tuple #[.agg #[.bool false, .string tx, .slice none 0 0], .int .i64 (M : Nat), .bool true]) (by simp [results, Try.results41, go_sem]) rfl (HF.out _ HB.out)
    · have HS' := Lib.hid (show ∀ V, Calls Try.prog 55 #[.string (str (b :: r))] V fun e w' => e = .returned (.tuple #[.int .i64 1, .int .i64 (x.length : Nat), .bool true]) ∧ w' = V from HS.out)
      have hcut' : ∀ V, (Instr.slice 9 (.string (str (b :: r))) (some (.int .i64 1)) (some (.int .i64 ((1 + x.length : Nat) : Int))) none).run Try.prog V = .ok (.string (str x)) V := hcut
      have hMs' : (1 : Int) + (x.length : Int) = ((1 + x.length : Nat) : Int) := by omega
      clear HS hcut hMs
      generalize str (b :: r) = t at *
      generalize str x = tx at *
      generalize b.toNat = bn at *
      generalize 1 + x.length = M at *
      generalize x.length = N at *
      go_enter Try.func41, Try.ntmps41
      go_wp2_with fail
      go_at_call 55
      refine (HS'.out _).mono ?_
      rintro e w1 ⟨rfl, rfl⟩
      clear HS'
      go_wp2_with fail
      exact bodyPost_ret (v := .tuple #[.agg #[.bool false, .string tx, .slice none 0 0], .int .i64 (M : Nat), .bool true]) (by simp [results, Try.results41, go_sem]) rfl (HF.out _ HB.out)
    · have HS' := Lib.hid (show ∀ V, Calls Try.prog 55 #[.string (str (b :: r))] V fun e w' => e = .returned (.tuple #[.int .i64 1, .int .i64 1, .bool true]) ∧ w' = V from HS.out)
      have hcut' : ∀ V, (Instr.slice 9 (.string (str (b :: r))) (some (.int .i64 1)) (some (.int .i64 2)) none).run Try.prog V = .ok (.string (str [c])) V := hcut
      have HF' := Lib.hid (show ∀ w', Below w.heap.size w w' → RTakeR (b :: r) (some (.text [c] .nil, r')) w (.returned (.tuple #[.agg #[.bool false, .string (str [c]), .slice none 0 0], .int .i64 2, .bool true])) w' from HF.out)
      have hixc := rindex0 c []
      clear HS hcut hMs HF
      generalize str (b :: r) = t at *
      generalize str [c] = tx at *
      generalize b.toNat = bn at *
      generalize c.toNat = cn at *
      go_enter Try.func41, Try.ntmps41
      go_wp2_with fail
      go_at_call 55
      refine (HS'.out _).mono ?_
      rintro e w1 ⟨rfl, rfl⟩
      clear HS'
      go_wp2_with fail
      exact bodyPost_ret (v := .tuple #[.agg #[.bool false, .string tx, .slice none 0 0], .int .i64 2, .bool true]) (by simp [results, Try.results41, go_sem]) rfl (HF'.out _ HB.out)
end Go.Proofs.Ytgaaalacoeainaa
