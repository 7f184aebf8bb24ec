/- The closures of record; steps in a chain, as plain data has them. -/
import Derived.Test.YtialfpkmcafkmaaGreatQi
namespace Go.Proofs.YtialfpkmcafkmaaGreat
open Go.RowKit

def runP (p : Pd) : List (Pd → Int × Pd) → Int × Pd
  | [] => (0, p)
  | f :: r => if (f p).1 = 0 then runP (f p).2 r else f p
section
variable {p : Pd} {d N : Nat} {F : Nat → Prop} {W : World} {s xs : Nm}
theorem On.mono (h : On p d N F W) {M : Nat} (hM : N ≤ M) : On p d M F W := by
  obtain ⟨hp, x, h1, h2, h3, h4, h5⟩ := h
  exact ⟨hp, x, h1, h2, h3, by omega, h5⟩
theorem Left.mono {W' : World} (h : Left p d N F W W') {M : Nat} (hM : N ≤ M) : Left p d M F W W' := by
  obtain ⟨F', h1, h2⟩ := h
  exact ⟨F', h1.mono hM, h2⟩
theorem run_c (steps : List (FuncId × Array Value)) (fs : List (Pd → Int × Pd)) (hfs : fs.length = steps.length) (g c : Nat) (hc : steps.length ≤ c) (hl : steps.length ≤ 1000) (h : On p d N F W)
    (hg : ∀ (k : Nat) (st : FuncId × Array Value), steps[k]? = some st → W.cell? ⟨g, k, none⟩ = some (.func (.func st.1) #[] st.2)) (hgs : g < W.heap.size) (hgF : ¬ F g)
    (hen : ∀ (k : Nat) (st : FuncId × Array Value), steps[k]? = some st → ∀ w, (callFunc st.1 st.2).run Tryz.prog w = .ok (.enter st.1 st.2) w)
    (hstep : ∀ (k : Nat) (st : FuncId × Array Value) (f : Pd → Int × Pd), steps[k]? = some st → fs[k]? = some f → ∀ (q : Pd) (F' : Nat → Prop) (V : World), On q d (N + k) F' V → Chg F F' W V →
      Calls Tryz.prog st.1 st.2 V fun e V' => e = .returned (.int .i64 (f q).1) ∧ Left (f q).2 d (N + k + 1) F' V V') :
    Calls Tryz.prog 38 #[.slice (some ⟨g, 0, none⟩) steps.length c] W fun e W' => e = .returned (.int .i64 (runP p fs).1) ∧ Left (runP p fs).2 d (N + steps.length) F W W' := by
  refine (inOrder_c steps g c hc hl (fun k V => ∃ q F', On q d (N + k) F' V ∧ Chg F F' W V ∧ runP p fs = runP q (fs.drop k)) (fun r V => ∃ q F', On q d (N + steps.length) F' V ∧ Chg F F' W V ∧ runP p fs = (r, q)) W ⟨p, F, h, Chg.refl _ _, rfl⟩ ?_ hen ?_).mono ?_
  · rintro k V st ⟨q, F', h1, h2, h3⟩ hst
    exact (World.cell?_of_block (h2.block g hgs hgF)).trans (hg k st hst)
  · rintro k st V hst ⟨q, F', h1, h2, h3⟩
    have hk : k < steps.length := by
      rcases Nat.lt_or_ge k steps.length with h | h
      · exact h
      · rw [List.getElem?_eq_none h] at hst; cases hst
    obtain ⟨f, hf⟩ : ∃ f, fs[k]? = some f := ⟨_, List.getElem?_eq_getElem (by omega)⟩
    have hd : fs.drop k = f :: fs.drop (k + 1) := by
      have hkf : k < fs.length := by omega
      rw [List.drop_eq_getElem_cons hkf]
      rw [List.getElem?_eq_getElem hkf] at hf
      injection hf with hf
      rw [hf]
    refine (hstep k st f hst hf q F' V h1 h2).mono ?_
    rintro e V' ⟨rfl, F2, k1, k2⟩
    refine ⟨_, rfl, ?_⟩
    by_cases hz : (f q).1 = 0
    · exact Or.inl ⟨hz, _, F2, k1, h2.trans k2, by rw [h3, hd, runP, if_pos hz]⟩
    · exact Or.inr ⟨hz, _, F2, k1.mono (by omega), h2.trans k2, by rw [h3, hd, runP, if_neg hz]⟩
  · rintro e W' ⟨r, rfl, hq⟩
    rcases hq with ⟨rfl, q, F', h1, h2, h3⟩ | ⟨_, q, F', h1, h2, h3⟩
    · rw [List.drop_of_length_le (by omega)] at h3
      rw [h3]
      exact ⟨rfl, F', h1, h2⟩
    · rw [h3]
      exact ⟨rfl, F', h1, h2⟩
end
theorem enter_exch1 (b0 b1 : Value) (w : World) : (callFunc 67 #[b0, b1]).run Tryz.prog w = .ok (.enter 67 #[b0, b1]) w := by kernel_rfl
set_option maxRecDepth 100000 in
theorem exch1_c {V : World} {d b0 b1 : Nat} {y1 : ByteArray} {r : Int} {L : World → Prop} (c0 : V.cell? ⟨b0, 0, none⟩ = some (.pointer (some ⟨d, 0, none⟩))) (c1 : V.cell? ⟨b1, 0, none⟩ = some (.string y1))
    (C : Calls Tryz.prog 40 #[.pointer (some ⟨d, 0, none⟩), .string y1] V fun e V' => e = .returned (.int .i64 r) ∧ L V') :
    Calls Tryz.prog 67 #[.pointer (some ⟨b0, 0, none⟩), .pointer (some ⟨b1, 0, none⟩)] V fun e V' => e = .returned (.int .i64 r) ∧ L V' := by
  have HC := Lib.hid C
  clear C
  go_enter Tryz.func67, Tryz.ntmps67
  go_wp2_with fail
  refine HC.out.mono ?_
  rintro e W2 ⟨rfl, hq⟩
  have HQ := Lib.hid hq
  clear hq HC
  go_wp2_with fail
  go_ret
  exact ⟨rfl, HQ.out⟩
theorem enter_exch2 (b0 b1 b2 : Value) (w : World) : (callFunc 68 #[b0, b1, b2]).run Tryz.prog w = .ok (.enter 68 #[b0, b1, b2]) w := by kernel_rfl
set_option maxRecDepth 100000 in
theorem exch2_c {V : World} {d b0 b1 b2 : Nat} {y1 y2 : ByteArray} {r : Int} {L : World → Prop} (c0 : V.cell? ⟨b0, 0, none⟩ = some (.pointer (some ⟨d, 0, none⟩))) (c1 : V.cell? ⟨b1, 0, none⟩ = some (.string y1)) (c2 : V.cell? ⟨b2, 0, none⟩ = some (.string y2))
    (C : Calls Tryz.prog 22 #[.pointer (some ⟨d, 0, none⟩), .string y1, .string y2] V fun e V' => e = .returned (.int .i64 r) ∧ L V') :
    Calls Tryz.prog 68 #[.pointer (some ⟨b0, 0, none⟩), .pointer (some ⟨b1, 0, none⟩), .pointer (some ⟨b2, 0, none⟩)] V fun e V' => e = .returned (.int .i64 r) ∧ L V' := by
  have HC := Lib.hid C
  clear C
  go_enter Tryz.func68, Tryz.ntmps68
  go_wp2_with fail
  refine HC.out.mono ?_
  rintro e W2 ⟨rfl, hq⟩
  have HQ := Lib.hid hq
  clear hq HC
  go_wp2_with fail
  go_ret
  exact ⟨rfl, HQ.out⟩
theorem enter_exch3 (b0 b1 : Value) (w : World) : (callFunc 69 #[b0, b1]).run Tryz.prog w = .ok (.enter 69 #[b0, b1]) w := by kernel_rfl
set_option maxRecDepth 100000 in
theorem exch3_c {V : World} {d b0 b1 : Nat} {y1 : ByteArray} {r : Int} {L : World → Prop} (c0 : V.cell? ⟨b0, 0, none⟩ = some (.pointer (some ⟨d, 0, none⟩))) (c1 : V.cell? ⟨b1, 0, none⟩ = some (.string y1))
    (C : Calls Tryz.prog 58 #[.pointer (some ⟨d, 0, none⟩), .string y1] V fun e V' => e = .returned (.int .i64 r) ∧ L V') :
    Calls Tryz.prog 69 #[.pointer (some ⟨b0, 0, none⟩), .pointer (some ⟨b1, 0, none⟩)] V fun e V' => e = .returned (.int .i64 r) ∧ L V' := by
  have HC := Lib.hid C
  clear C
  go_enter Tryz.func69, Tryz.ntmps69
  go_wp2_with fail
  refine HC.out.mono ?_
  rintro e W2 ⟨rfl, hq⟩
  have HQ := Lib.hid hq
  clear hq HC
  go_wp2_with fail
  go_ret
  exact ⟨rfl, HQ.out⟩
theorem enter_exch4 (b0 b1 b2 : Value) (w : World) : (callFunc 70 #[b0, b1, b2]).run Tryz.prog w = .ok (.enter 70 #[b0, b1, b2]) w := by kernel_rfl
set_option maxRecDepth 100000 in
theorem exch4_c {V : World} {d b0 b1 b2 : Nat} {y1 y2 : ByteArray} {r : Int} {L : World → Prop} (c0 : V.cell? ⟨b0, 0, none⟩ = some (.pointer (some ⟨d, 0, none⟩))) (c1 : V.cell? ⟨b1, 0, none⟩ = some (.string y1)) (c2 : V.cell? ⟨b2, 0, none⟩ = some (.string y2))
    (C : Calls Tryz.prog 71 #[.pointer (some ⟨d, 0, none⟩), .string y1, .string y2] V fun e V' => e = .returned (.int .i64 r) ∧ L V') :
    Calls Tryz.prog 70 #[.pointer (some ⟨b0, 0, none⟩), .pointer (some ⟨b1, 0, none⟩), .pointer (some ⟨b2, 0, none⟩)] V fun e V' => e = .returned (.int .i64 r) ∧ L V' := by
  have HC := Lib.hid C
  clear C
  go_enter Tryz.func70, Tryz.ntmps70
  go_wp2_with fail
  refine HC.out.mono ?_
  rintro e W2 ⟨rfl, hq⟩
  have HQ := Lib.hid hq
  clear hq HC
  go_wp2_with fail
  go_ret
  exact ⟨rfl, HQ.out⟩
theorem enter_add1 (b0 b1 b2 : Value) (w : World) : (callFunc 56 #[b0, b1, b2]).run Tryz.prog w = .ok (.enter 56 #[b0, b1, b2]) w := by kernel_rfl
set_option maxRecDepth 100000 in
theorem add1_c {V : World} {d b0 b1 b2 : Nat} {y1 y2 : ByteArray} {r : Int} {L : World → Prop} (c0 : V.cell? ⟨b0, 0, none⟩ = some (.pointer (some ⟨d, 0, none⟩))) (c1 : V.cell? ⟨b1, 0, none⟩ = some (.string y1)) (c2 : V.cell? ⟨b2, 0, none⟩ = some (.string y2))
    (C : Calls Tryz.prog 22 #[.pointer (some ⟨d, 0, none⟩), .string y1, .string y2] V fun e V' => e = .returned (.int .i64 r) ∧ L V') :
    Calls Tryz.prog 56 #[.pointer (some ⟨b0, 0, none⟩), .pointer (some ⟨b1, 0, none⟩), .pointer (some ⟨b2, 0, none⟩)] V fun e V' => e = .returned (.int .i64 r) ∧ L V' := by
  have HC := Lib.hid C
  clear C
  go_enter Tryz.func56, Tryz.ntmps56
  go_wp2_with fail
  refine HC.out.mono ?_
  rintro e W2 ⟨rfl, hq⟩
  have HQ := Lib.hid hq
  clear hq HC
  go_wp2_with fail
  go_ret
  exact ⟨rfl, HQ.out⟩
theorem enter_add2 (b0 b1 : Value) (w : World) : (callFunc 57 #[b0, b1]).run Tryz.prog w = .ok (.enter 57 #[b0, b1]) w := by kernel_rfl
set_option maxRecDepth 100000 in
theorem add2_c {V : World} {d b0 b1 : Nat} {y1 : ByteArray} {r : Int} {L : World → Prop} (c0 : V.cell? ⟨b0, 0, none⟩ = some (.pointer (some ⟨d, 0, none⟩))) (c1 : V.cell? ⟨b1, 0, none⟩ = some (.string y1))
    (C : Calls Tryz.prog 58 #[.pointer (some ⟨d, 0, none⟩), .string y1] V fun e V' => e = .returned (.int .i64 r) ∧ L V') :
    Calls Tryz.prog 57 #[.pointer (some ⟨b0, 0, none⟩), .pointer (some ⟨b1, 0, none⟩)] V fun e V' => e = .returned (.int .i64 r) ∧ L V' := by
  have HC := Lib.hid C
  clear C
  go_enter Tryz.func57, Tryz.ntmps57
  go_wp2_with fail
  refine HC.out.mono ?_
  rintro e W2 ⟨rfl, hq⟩
  have HQ := Lib.hid hq
  clear hq HC
  go_wp2_with fail
  go_ret
  exact ⟨rfl, HQ.out⟩
theorem enter_mend2 (b0 b1 : Value) (w : World) : (callFunc 42 #[b0, b1]).run Tryz.prog w = .ok (.enter 42 #[b0, b1]) w := by kernel_rfl
set_option maxRecDepth 100000 in
theorem mend2_c {V : World} {d b0 b1 : Nat} {y1 : ByteArray} {r : Int} {L : World → Prop} (c0 : V.cell? ⟨b0, 0, none⟩ = some (.pointer (some ⟨d, 0, none⟩))) (c1 : V.cell? ⟨b1, 0, none⟩ = some (.string y1))
    (C : Calls Tryz.prog 43 #[.pointer (some ⟨d, 0, none⟩), .string y1] V fun e V' => e = .returned (.int .i64 r) ∧ L V') :
    Calls Tryz.prog 42 #[.pointer (some ⟨b0, 0, none⟩), .pointer (some ⟨b1, 0, none⟩)] V fun e V' => e = .returned (.int .i64 r) ∧ L V' := by
  have HC := Lib.hid C
  clear C
  go_enter Tryz.func42, Tryz.ntmps42
  go_wp2_with fail
  refine HC.out.mono ?_
  rintro e W2 ⟨rfl, hq⟩
  have HQ := Lib.hid hq
  clear hq HC
  go_wp2_with fail
  go_ret
  exact ⟨rfl, HQ.out⟩
end Go.Proofs.YtialfpkmcafkmaaGreat
