/- Steps one behind the other; a file's other name; a file that is taken away. -/
import Derived.Test.YtialfpkmcafkmaaGreatQh
import Derived.Test.YtialfpkmcafkmaaGreatQd
namespace Go.Proofs.YtialfpkmcafkmaaGreat
open Go.RowKit

set_option maxRecDepth 100000 in
set_option maxHeartbeats 1000000 in
theorem inOrder_c (steps : List (FuncId × Array Value)) (g c : Nat) (hc : steps.length ≤ c) (hl : steps.length ≤ 1000) (Q : Nat → World → Prop) (R : Int → World → Prop) (W : World) (h0 : Q 0 W)
    (hcell : ∀ (k : Nat) (V : World) (st : FuncId × Array Value), Q k V → steps[k]? = some st → V.cell? ⟨g, k, none⟩ = some (.func (.func st.1) #[] st.2))
    (hen : ∀ (k : Nat) (st : FuncId × Array Value), steps[k]? = some st → ∀ w, (callFunc st.1 st.2).run Tryz.prog w = .ok (.enter st.1 st.2) w)
    (hstep : ∀ (k : Nat) (st : FuncId × Array Value) (V : World), steps[k]? = some st → Q k V → Calls Tryz.prog st.1 st.2 V fun e V' => ∃ r, e = .returned (.int .i64 r) ∧ ((r = 0 ∧ Q (k + 1) V') ∨ (r ≠ 0 ∧ R r V'))) :
    Calls Tryz.prog 38 #[.slice (some ⟨g, 0, none⟩) steps.length c] W fun e W' => ∃ r, e = .returned (.int .i64 r) ∧ ((r = 0 ∧ Q steps.length W') ∨ (r ≠ 0 ∧ R r W')) := by
  have H := Lib.hid (And.intro hcell (And.intro hen hstep))
  have HQ0 := Lib.hid h0
  obtain ⟨n, hn⟩ : ∃ n, n = steps.length := ⟨_, rfl⟩
  have hni : (n : Int) ≤ 1000 := by omega
  have hci : (n : Int) ≤ (c : Int) := by omega
  have HN := Lib.hid hn
  rw [← hn]
  clear hcell hen hstep h0 hc hl hn
  go_enter Tryz.func38, Tryz.ntmps38
  go_wp2_with fail
  go_loopw [8] (fun i wr => ∃ k : Nat, k ≤ n ∧ i = .int .i64 k ∧ Q k wr) (fun i _ => n - (intOf i).toNat)
  case atStart => exact ⟨0, by omega, rfl, HQ0.out⟩
  case round =>
    obtain ⟨k, hk, rfl, hq⟩ := hrel
    by_cases hlt : k < n
    · obtain ⟨st, hst⟩ : ∃ st, steps[k]? = some st := ⟨_, List.getElem?_eq_getElem (by have := HN.out; omega)⟩
      have d1 := H.out.1 k _ st hq hst
      have hf := H.out.2.1 k st hst
      have HC := Lib.hid (H.out.2.2 k st _ hst hq)
      have hlti : (k : Int) < (n : Int) := by omega
      have hw : IntKind.i64.wrap ((k : Int) + 1) = (k : Int) + 1 := IntWalk.i64_in _ (by omega)
      clear hq hst H HQ0 HN
      obtain ⟨nf, caps⟩ := st
      go_wp2_with fail
      refine HC.out.mono ?_
      rintro e V' ⟨r, rfl, hq⟩
      rcases hq with ⟨rfl, hq⟩ | ⟨hr, hq⟩
      · have HQ := Lib.hid hq
        clear hq HC d1
        go_wp2_with fail
        go_roundw
        case rel => exact ⟨k + 1, by omega, by go_num, HQ.out⟩
        case measure => simp [intOf]; omega
      · have HQ := Lib.hid (And.intro hr hq)
        have hrb : (r == 0) = false := by simpa using hr
        clear hq HC d1
        go_wp2_with fail
        go_ret
        exact ⟨r, rfl, Or.inr HQ.out⟩
    · obtain rfl : k = n := by omega
      have HQ := Lib.hid hq
      clear hq H
      go_wp2_with fail
      go_ret
      exact ⟨0, rfl, Or.inl ⟨rfl, HQ.out⟩⟩
/-- The other name: .new behind it. -/
def fresh (s : Nm) : Nm := s ++ [46, 110, 101, 119]
set_option maxRecDepth 100000 in
theorem fresh_c (s : Nm) (hs : s.length ≤ 1000000) (W : World) : Calls Tryz.prog 41 #[.string (str s)] W fun e W' => e = .returned (.string (str (fresh s))) ∧ W' = W := by
  have hz := str_size s
  have HE := Lib.hid (show str s ++ (⟨#[46, 110, 101, 119]⟩ : ByteArray) = str (fresh s) by rw [fresh, ← str_app]; rfl)
  generalize str (fresh s) = z at *
  generalize str s = y at *
  have hzi : (y.size : Int) ≤ 1000000 := by omega
  go_enter Tryz.func41, Tryz.ntmps41
  go_wp2_with fail
  go_ret
  exact ⟨by rw [← HE.out]; rfl, rfl⟩
def Pd.discard (p : Pd) (s : Nm) : Int × Pd :=
  match getE p.L s with
  | none => (0, p)
  | some _ => p.delete s
section
variable {p : Pd} {d N : Nat} {F : Nat → Prop} {W : World} {s xs : Nm}
theorem On.left (h : On p d N F W) : Left p d (N + 1) F W W := by
  obtain ⟨hp, x, rfl, rfl, h1, h2, h3⟩ := h
  exact ⟨_, ⟨hp, x, rfl, rfl, h1, by omega, h3⟩, Chg.refl _ _⟩
set_option maxRecDepth 100000 in
theorem On.discard (h : On p d N F W) (hN : N < 999000) (hs : s.length ≤ maxLen) :
    Calls Tryz.prog 40 #[.pointer (some ⟨d, 0, none⟩), .string (str s)] W fun e W' => e = .returned (.int .i64 (p.discard s).1) ∧ Left (p.discard s).2 d (N + 1) F W W' := by
  have C1 := Lib.hid (h.read hs)
  have C2 := Lib.hid (h.delete hN hs)
  have HL := Lib.hid h.left
  unfold Pd.discard
  clear h hs hN
  generalize str s = y at *
  cases hg : getE p.L s with
  | none =>
    rw [hg, readV] at C1
    clear hg C2
    go_enter Tryz.func40, Tryz.ntmps40
    go_wp2_with fail
    refine C1.out.mono ?_
    rintro e w1 ⟨rfl, rfl⟩
    go_wp2_with fail
    go_ret
    exact ⟨rfl, HL.out⟩
  | some e0 =>
    rw [hg, readV] at C1
    clear hg
    generalize str e0.bs = z at *
    go_enter Tryz.func40, Tryz.ntmps40
    go_wp2_with fail
    refine C1.out.mono ?_
    rintro e w1 ⟨rfl, rfl⟩
    clear C1
    go_wp2_with fail
    refine C2.out.mono ?_
    rintro e w2 ⟨rfl, hq⟩
    have HQ := Lib.hid hq
    clear hq C2
    go_wp2_with fail
    go_ret
    exact ⟨rfl, HQ.out⟩
end
end Go.Proofs.YtialfpkmcafkmaaGreat
