/- Append, and the calls that change a file, by their contracts. -/
import Derived.Test.YtialfpkmcafkmaaGreatDkg
namespace Go.Proofs.YtialfpkmcafkmaaGreat
open Go.RowKit Go.Maps Go.WideElems Go.ChangeMaps Go.MapKept Go.WideMaps
section
variable {x : Dk} {W : World} {s xs : Nm}
theorem enter_whole (a b c d : Value) (w : World) : (callFunc 47 #[a, b, c, d]).run Tryz.prog w = .ok (.enter 47 #[a, b, c, d]) w := by kernel_rfl
theorem enter_torn (a b c d : Value) (w : World) : (callFunc 49 #[a, b, c, d]).run Tryz.prog w = .ok (.enter 49 #[a, b, c, d]) w := by kernel_rfl
/-- Sizes that a disk's numbers keep to. -/
structure Fine (x : Dk) : Prop where
  room : 0 ≤ x.room ∧ x.room ≤ 1000000000
  used : 0 ≤ x.used ∧ x.used ≤ 1000000000
  after : -9223372036854775808 ≤ x.after ∧ x.after ≤ 9223372036854775807
  n : x.n < 1000000
/-- How many steps are left behind one. -/
def Dk.tick (x : Dk) : Dk := { x with after := if 0 < x.after then x.after - 1 else x.after }
theorem append_dead (h : DiskAt x W) (hd : x.dead = true) (hx : Fine x) : Calls Tryz.prog 22 #[.pointer (some ⟨x.d, 0, none⟩), .string (str s), .string (str xs)] W fun e W' => e = .returned (.int .i64 19) ∧ DiskAt x W' ∧ Chg x.ft x.ft W W' := by
  refine (append_any h s xs ⟨by have := hx.used; omega, by have := hx.used; omega⟩ ⟨hx.room.1, by have := hx.room; omega⟩ (fun r W' => r = 19 ∧ DiskAt x W' ∧ Chg x.ft x.ft W W') fun W1 b0 b1 b2 b3 h1 hb hc => ?_).mono ?_
  · refine (step_dead h1 hd _ _).mono ?_
    rintro e W2 ⟨rfl, rfl⟩
    exact ⟨_, rfl, rfl, h1, Chg.of_below hb⟩
  · rintro e W2 ⟨r, rfl, rfl, hq⟩
    exact ⟨rfl, hq⟩
theorem append_crash (h : DiskAt x W) (hd : x.dead = false) (ha : x.after = 0) (hx : Fine x) (hf : (xs.length : Int) ≤ x.room - x.used) (hs : s.length ≤ maxLen) (hb : (bytesF (x.fs s)).length + xs.length ≤ 1000000000) :
    Calls Tryz.prog 22 #[.pointer (some ⟨x.d, 0, none⟩), .string (str s), .string (str xs)] W fun e W' => e = .returned (.int .i64 19) ∧ TornQ { x with dead := true } s xs W W' := by
  refine (append_any h s xs ⟨by have := hx.used; omega, by have := hx.used; omega⟩ ⟨hx.room.1, by have := hx.room; omega⟩ (fun r W' => r = 19 ∧ TornQ { x with dead := true } s xs W W') fun W1 b0 b1 b2 b3 h1 hb1 hc => ?_).mono ?_
  · refine (step_crash h1 hd ha _ _ _ (enter_torn _ _ _ _) (TornQ { x with dead := true } s xs W) fun W2 h2 hc2 => ?_).mono ?_
    · refine (torn_c (hc.chg (y := { x with dead := true }) hc2 (fun _ h => h) rfl rfl rfl (fun _ h => h)) h2 hf hs hb hx.n ⟨by have := hx.used; simp; omega, by have := hx.used; simp; omega⟩).mono ?_
      rintro e W3 ⟨rfl, hq⟩
      refine ⟨rfl, ?_⟩
      have h12 : Chg x.ft x.ft W W2 := (Chg.of_below hb1).trans hc2
      unfold TornQ at hq ⊢
      split
      · rename_i h0; rw [if_pos h0] at hq; exact ⟨hq.1, h12.trans hq.2⟩
      · rename_i h0; rw [if_neg h0] at hq
        obtain ⟨f, q1, q2, q3, q4⟩ := hq
        exact ⟨f, q1, q2, q3, h12.trans q4⟩
    · rintro e W2 ⟨rfl, hq⟩
      exact ⟨_, rfl, rfl, hq⟩
  · rintro e W2 ⟨r, rfl, rfl, hq⟩
    exact ⟨rfl, hq⟩
theorem append_full (h : DiskAt x W) (hd : x.dead = false) (ha : x.after ≠ 0) (hx : Fine x) (hf : ¬ (xs.length : Int) ≤ x.room - x.used) :
    Calls Tryz.prog 22 #[.pointer (some ⟨x.d, 0, none⟩), .string (str s), .string (str xs)] W fun e W' => e = .returned (.int .i64 5) ∧ DiskAt x.tick W' ∧ Chg x.ft x.ft W W' := by
  refine (append_any h s xs ⟨by have := hx.used; omega, by have := hx.used; omega⟩ ⟨hx.room.1, by have := hx.room; omega⟩ (fun r W' => r = 5 ∧ DiskAt x.tick W' ∧ Chg x.ft x.ft W W') fun W1 b0 b1 b2 b3 h1 hb1 hc => ?_).mono ?_
  · refine step_whole h1 hd ha hx.after _ _ _ (enter_whole _ _ _ _) _ fun W2 h2 hc2 => ?_
    refine (whole_full (hc.chg (y := x.tick) hc2 (fun _ h => h) rfl rfl rfl (fun _ h => h)) hf).mono ?_
    rintro e W3 ⟨rfl, rfl⟩
    exact ⟨_, rfl, rfl, h2, (Chg.of_below hb1).trans hc2⟩
  · rintro e W2 ⟨r, rfl, rfl, hq⟩
    exact ⟨rfl, hq⟩
/-- What stands on a disk behind an Append. -/
def Dk.put (x : Dk) (s : Nm) (f : Fl) (n : Nat) : Dk := { x with n := x.n + 1, fs := updF x.fs s (some f), used := x.used + n }
theorem append_fits (h : DiskAt x W) (hd : x.dead = false) (ha : x.after ≠ 0) (hx : Fine x) (hf : (xs.length : Int) ≤ x.room - x.used) (hs : s.length ≤ maxLen) (hb : (bytesF (x.fs s)).length + xs.length ≤ 1000000000) :
    Calls Tryz.prog 22 #[.pointer (some ⟨x.d, 0, none⟩), .string (str s), .string (str xs)] W fun e W' => e = .returned (.int .i64 0) ∧ ∃ f, f.bs = bytesF (x.fs s) ++ xs ∧ f.syn = synF (x.fs s) ∧ DiskAt (x.tick.put s f xs.length) W' ∧ Chg x.ft (x.tick.put s f xs.length).ft W W' := by
  refine (append_any h s xs ⟨by have := hx.used; omega, by have := hx.used; omega⟩ ⟨hx.room.1, by have := hx.room; omega⟩ (fun r W' => r = 0 ∧ ∃ f, f.bs = bytesF (x.fs s) ++ xs ∧ f.syn = synF (x.fs s) ∧ DiskAt (x.tick.put s f xs.length) W' ∧ Chg x.ft (x.tick.put s f xs.length).ft W W') fun W1 b0 b1 b2 b3 h1 hb1 hc => ?_).mono ?_
  · refine step_whole h1 hd ha hx.after _ _ _ (enter_whole _ _ _ _) _ fun W2 h2 hc2 => ?_
    refine (whole_fits (hc.chg (y := x.tick) hc2 (fun _ h => h) rfl rfl rfl (fun _ h => h)) h2 hf hs hb hx.n ⟨by have := hx.used; show (-1000000000000 : Int) ≤ x.used; omega, by have := hx.used; show x.used ≤ (1000000000000 : Int); omega⟩).mono ?_
    rintro e W3 ⟨rfl, f, q1, q2, q3, q4⟩
    exact ⟨_, rfl, rfl, f, q1, q2, q3, ((Chg.of_below hb1).trans hc2).trans q4⟩
  · rintro e W2 ⟨r, rfl, rfl, hq⟩
    exact ⟨rfl, hq⟩
end
end Go.Proofs.YtialfpkmcafkmaaGreat
