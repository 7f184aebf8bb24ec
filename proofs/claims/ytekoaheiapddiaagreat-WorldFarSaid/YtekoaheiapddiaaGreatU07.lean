/- Merged: Qi, Qj, Qk, Ql, Qm, Qo. -/
import Derived.Test.YtekoaheiapddiaaGreatU04
import Derived.Test.YtekoaheiapddiaaGreatU06
import Derived.SliceStrings
import Derived.Carry
import Derived.ProofKit
import Derived.OpenShut
import Derived.ChangeMaps5
section
namespace Go.Proofs.YtekoaheiapddiaaGreat.Dz
open Go.RowKit

set_option maxRecDepth 100000 in
set_option maxHeartbeats 1000000 in
theorem inOrder_c (steps : List (FuncId × Array Value)) (g c : Nat) (hc : steps.length ≤ c) (hl : steps.length ≤ 1000) (Q : Nat → World → Prop) (R : Int → World → Prop) (W : World) (h0 : Q 0 W)
    (hcell : ∀ (k : Nat) (V : World) (st : FuncId × Array Value), Q k V → steps[k]? = some st → V.cell? ⟨g, k, none⟩ = some (.func (.func st.1) #[] st.2))
    (hen : ∀ (k : Nat) (st : FuncId × Array Value), steps[k]? = some st → ∀ w, (callFunc st.1 st.2).run Tryz.prog w = .ok (.enter st.1 st.2) w)
    (hstep : ∀ (k : Nat) (st : FuncId × Array Value) (V : World), steps[k]? = some st → Q k V → Calls Tryz.prog st.1 st.2 V fun e V' => ∃ r, e = .returned (.int .i64 r) ∧ ((r = 0 ∧ Q (k + 1) V') ∨ (r ≠ 0 ∧ R r V'))) :
    Calls Tryz.prog 220 #[.slice (some ⟨g, 0, none⟩) steps.length c] W fun e W' => ∃ r, e = .returned (.int .i64 r) ∧ ((r = 0 ∧ Q steps.length W') ∨ (r ≠ 0 ∧ R r W')) := by
  have H := Lib.hid (And.intro hcell (And.intro hen hstep))
  have HQ0 := Lib.hid h0
  obtain ⟨n, hn⟩ : ∃ n, n = steps.length := ⟨_, rfl⟩
  have hni : (n : Int) ≤ 1000 := by omega
  have hci : (n : Int) ≤ (c : Int) := by omega
  have HN := Lib.hid hn
  rw [← hn]
  clear hcell hen hstep h0 hc hl hn
  go_enter Tryz.func220, Tryz.ntmps220
  go_wp2_with fail
  go_loopw [8] (fun i wr => ∃ k : Nat, k ≤ n ∧ i = .int .i64 k ∧ Q k wr) (fun i _ => n - (intOf i).toNat)
  case atStart => exact ⟨0, by omega, rfl, HQ0.out⟩
  case round =>
    obtain ⟨k, hk, rfl, hq⟩ := hrel
    by_cases hlt : k < n
    · obtain ⟨st, hst⟩ : ∃ st, steps[k]? = some st := ⟨_, List.getElem?_eq_getElem (by have := HN.out; omega)⟩
      have d1 := H.out.1 k _ st hq hst
      have hf := H.out.2.1 k st hst
      have HC := Lib.hid (H.out.2.2 k st _ hst hq)
      have hlti : (k : Int) < (n : Int) := by omega
      have hw : IntKind.i64.wrap ((k : Int) + 1) = (k : Int) + 1 := IntWalk.i64_in _ (by omega)
      clear hq hst H HQ0 HN
      obtain ⟨nf, caps⟩ := st
      go_wp2_with fail
      refine HC.out.mono ?_
      rintro e V' ⟨r, rfl, hq⟩
      rcases hq with ⟨rfl, hq⟩ | ⟨hr, hq⟩
      · have HQ := Lib.hid hq
        clear hq HC d1
        go_wp2_with fail
        go_roundw
        case rel => exact ⟨k + 1, by omega, by go_num, HQ.out⟩
        case measure => simp [intOf]; omega
      · have HQ := Lib.hid (And.intro hr hq)
        have hrb : (r == 0) = false := by simpa using hr
        clear hq HC d1
        go_wp2_with fail
        go_ret
        exact ⟨r, rfl, Or.inr HQ.out⟩
    · obtain rfl : k = n := by omega
      have HQ := Lib.hid hq
      clear hq H
      go_wp2_with fail
      go_ret
      exact ⟨0, rfl, Or.inl ⟨rfl, HQ.out⟩⟩
end Go.Proofs.YtekoaheiapddiaaGreat.Dz
end
section
namespace Go.Proofs.YtekoaheiapddiaaGreat.Dz
open Go.RowKit

def runP (p : Pd) : List (Pd → Int × Pd) → Int × Pd
  | [] => (0, p)
  | f :: r => if (f p).1 = 0 then runP (f p).2 r else f p
section
variable {p : Pd} {d N : Nat} {F : Nat → Prop} {W : World} {s xs : Nm}
theorem On.mono (h : On p d N F W) {M : Nat} (hM : N ≤ M) : On p d M F W := by
  obtain ⟨hp, x, h1, h2, h3, h4, h5⟩ := h
  exact ⟨hp, x, h1, h2, h3, by omega, h5⟩
theorem run_c (steps : List (FuncId × Array Value)) (fs : List (Pd → Int × Pd)) (hfs : fs.length = steps.length) (g c : Nat) (hc : steps.length ≤ c) (hl : steps.length ≤ 1000) (h : On p d N F W)
    (hg : ∀ (k : Nat) (st : FuncId × Array Value), steps[k]? = some st → W.cell? ⟨g, k, none⟩ = some (.func (.func st.1) #[] st.2)) (hgs : g < W.heap.size) (hgF : ¬ F g)
    (hen : ∀ (k : Nat) (st : FuncId × Array Value), steps[k]? = some st → ∀ w, (callFunc st.1 st.2).run Tryz.prog w = .ok (.enter st.1 st.2) w)
    (hstep : ∀ (k : Nat) (st : FuncId × Array Value) (f : Pd → Int × Pd), steps[k]? = some st → fs[k]? = some f → ∀ (q : Pd) (F' : Nat → Prop) (V : World), On q d (N + k) F' V → Chg F F' W V →
      Calls Tryz.prog st.1 st.2 V fun e V' => e = .returned (.int .i64 (f q).1) ∧ Left (f q).2 d (N + k + 1) F' V V') :
    Calls Tryz.prog 220 #[.slice (some ⟨g, 0, none⟩) steps.length c] W fun e W' => e = .returned (.int .i64 (runP p fs).1) ∧ Left (runP p fs).2 d (N + steps.length) F W W' := by
  refine (inOrder_c steps g c hc hl (fun k V => ∃ q F', On q d (N + k) F' V ∧ Chg F F' W V ∧ runP p fs = runP q (fs.drop k)) (fun r V => ∃ q F', On q d (N + steps.length) F' V ∧ Chg F F' W V ∧ runP p fs = (r, q)) W ⟨p, F, h, Chg.refl _ _, rfl⟩ ?_ hen ?_).mono ?_
  · rintro k V st ⟨q, F', h1, h2, h3⟩ hst
    exact (World.cell?_of_block (h2.block g hgs hgF)).trans (hg k st hst)
  · rintro k st V hst ⟨q, F', h1, h2, h3⟩
    have hk : k < steps.length := by
      rcases Nat.lt_or_ge k steps.length with h | h
      · exact h
      · rw [List.getElem?_eq_none h] at hst; cases hst
    obtain ⟨f, hf⟩ : ∃ f, fs[k]? = some f := ⟨_, List.getElem?_eq_getElem (by omega)⟩
    have hd : fs.drop k = f :: fs.drop (k + 1) := by
      have hkf : k < fs.length := by omega
      rw [List.drop_eq_getElem_cons hkf]
      rw [List.getElem?_eq_getElem hkf] at hf
      injection hf with hf
      rw [hf]
    refine (hstep k st f hst hf q F' V h1 h2).mono ?_
    rintro e V' ⟨rfl, F2, k1, k2⟩
    refine ⟨_, rfl, ?_⟩
    by_cases hz : (f q).1 = 0
    · exact Or.inl ⟨hz, _, F2, k1, h2.trans k2, by rw [h3, hd, runP, if_pos hz]⟩
    · exact Or.inr ⟨hz, _, F2, k1.mono (by omega), h2.trans k2, by rw [h3, hd, runP, if_neg hz]⟩
  · rintro e W' ⟨r, rfl, hq⟩
    rcases hq with ⟨rfl, q, F', h1, h2, h3⟩ | ⟨_, q, F', h1, h2, h3⟩
    · rw [List.drop_of_length_le (by omega)] at h3
      rw [h3]
      exact ⟨rfl, F', h1, h2⟩
    · rw [h3]
      exact ⟨rfl, F', h1, h2⟩
end
theorem enter_add1 (b0 b1 b2 : Value) (w : World) : (callFunc 221 #[b0, b1, b2]).run Tryz.prog w = .ok (.enter 221 #[b0, b1, b2]) w := by kernel_rfl
set_option maxRecDepth 100000 in
theorem add1_c {V : World} {d b0 b1 b2 : Nat} {y1 y2 : ByteArray} {r : Int} {L : World → Prop} (c0 : V.cell? ⟨b0, 0, none⟩ = some (.pointer (some ⟨d, 0, none⟩))) (c1 : V.cell? ⟨b1, 0, none⟩ = some (.string y1)) (c2 : V.cell? ⟨b2, 0, none⟩ = some (.string y2))
    (C : Calls Tryz.prog 222 #[.pointer (some ⟨d, 0, none⟩), .string y1, .string y2] V fun e V' => e = .returned (.int .i64 r) ∧ L V') :
    Calls Tryz.prog 221 #[.pointer (some ⟨b0, 0, none⟩), .pointer (some ⟨b1, 0, none⟩), .pointer (some ⟨b2, 0, none⟩)] V fun e V' => e = .returned (.int .i64 r) ∧ L V' := by
  have HC := Lib.hid C
  clear C
  go_enter Tryz.func221, Tryz.ntmps221
  go_wp2_with fail
  refine HC.out.mono ?_
  rintro e W2 ⟨rfl, hq⟩
  have HQ := Lib.hid hq
  clear hq HC
  go_wp2_with fail
  go_ret
  exact ⟨rfl, HQ.out⟩
theorem enter_add2 (b0 b1 : Value) (w : World) : (callFunc 223 #[b0, b1]).run Tryz.prog w = .ok (.enter 223 #[b0, b1]) w := by kernel_rfl
set_option maxRecDepth 100000 in
theorem add2_c {V : World} {d b0 b1 : Nat} {y1 : ByteArray} {r : Int} {L : World → Prop} (c0 : V.cell? ⟨b0, 0, none⟩ = some (.pointer (some ⟨d, 0, none⟩))) (c1 : V.cell? ⟨b1, 0, none⟩ = some (.string y1))
    (C : Calls Tryz.prog 224 #[.pointer (some ⟨d, 0, none⟩), .string y1] V fun e V' => e = .returned (.int .i64 r) ∧ L V') :
    Calls Tryz.prog 223 #[.pointer (some ⟨b0, 0, none⟩), .pointer (some ⟨b1, 0, none⟩)] V fun e V' => e = .returned (.int .i64 r) ∧ L V' := by
  have HC := Lib.hid C
  clear C
  go_enter Tryz.func223, Tryz.ntmps223
  go_wp2_with fail
  refine HC.out.mono ?_
  rintro e W2 ⟨rfl, hq⟩
  have HQ := Lib.hid hq
  clear hq HC
  go_wp2_with fail
  go_ret
  exact ⟨rfl, HQ.out⟩
end Go.Proofs.YtekoaheiapddiaaGreat.Dz
end
section
namespace Go.Proofs.YtekoaheiapddiaaGreat.Dz
open Go.RowKit

theorem allocs5 (W : World) (o0 o1 o2 o3 o4 : Obj) : ((((((W.alloc o0).alloc o1).alloc o2).alloc o3).alloc o4).heap[W.heap.size]? = some o0 ∧ (((((W.alloc o0).alloc o1).alloc o2).alloc o3).alloc o4).heap[W.heap.size + 1]? = some o1 ∧ (((((W.alloc o0).alloc o1).alloc o2).alloc o3).alloc o4).heap[W.heap.size + 2]? = some o2 ∧
    (((((W.alloc o0).alloc o1).alloc o2).alloc o3).alloc o4).heap[W.heap.size + 3]? = some o3 ∧ (((((W.alloc o0).alloc o1).alloc o2).alloc o3).alloc o4).heap[W.heap.size + 4]? = some o4) ∧ Below W.heap.size W (((((W.alloc o0).alloc o1).alloc o2).alloc o3).alloc o4) ∧ (((((W.alloc o0).alloc o1).alloc o2).alloc o3).alloc o4).heap.size = W.heap.size + 5 := by
  refine ⟨?_, ?_, ?_⟩
  · simp only [World.alloc, Array.getElem?_push, Array.size_push]
    refine ⟨?_, ?_, ?_, ?_, ?_⟩ <;> ((repeat first | rw [if_neg (by omega)]); first | exact if_pos trivial | exact if_pos rfl | rw [if_pos (by omega)])
  · exact (((((Below.refl _ _).alloc (Nat.le_refl _) _).alloc (by simp) _).alloc (by simp; omega) _).alloc (by simp; omega) _).alloc (by simp; omega) _
  · simp
section
variable {p : Pd} {d N : Nat} {F : Nat → Prop} {W : World} {s xs name : Nm}
theorem On.lt (h : On p d N F W) {k : Nat} (hk : F k) : k < W.heap.size := by
  obtain ⟨hp, x, rfl, rfl, h1, h2, h3⟩ := h
  exact h1.lt hk
theorem On.below (h : On p d N F W) {W' : World} (hb : Below W.heap.size W W') : On p d N F W' := by
  obtain ⟨hp, x, rfl, rfl, h1, h2, h3⟩ := h
  exact ⟨hp, x, rfl, rfl, h1.below hb, h2, h3⟩
theorem On.kept (h : On p d N F W) {W' : World} (hk : ∀ k, F k → W'.heap[k]? = W.heap[k]?) : On p d N F W' := by
  obtain ⟨hp, x, rfl, rfl, h1, h2, h3⟩ := h
  exact ⟨hp, x, rfl, rfl, h1.kept hk, h2, h3⟩
def Pd.add (p : Pd) (name s : Nm) : Int × Pd := if s.length ≤ 65536 then runP p [(·.append name (fr s)), (·.sync name)] else (3, p)
theorem allocs3 (W : World) (o0 o1 o2 : Obj) : Below W.heap.size W (((W.alloc o0).alloc o1).alloc o2) := (((Below.refl _ _).alloc (Nat.le_refl _) _).alloc (by simp) _).alloc (by simp; omega) _
theorem allocs2 (W : World) (o0 o1 : Obj) : (((W.alloc o0).alloc o1).heap[W.heap.size]? = some o0 ∧ ((W.alloc o0).alloc o1).heap[W.heap.size + 1]? = some o1) ∧ Below W.heap.size W ((W.alloc o0).alloc o1) ∧ ((W.alloc o0).alloc o1).heap.size = W.heap.size + 2 := by
  refine ⟨?_, ?_, ?_⟩
  · simp only [World.alloc, Array.getElem?_push, Array.size_push]
    refine ⟨?_, ?_⟩ <;> ((repeat first | rw [if_neg (by omega)]); first | exact if_pos trivial | exact if_pos rfl | rw [if_pos (by omega)])
  · exact ((Below.refl _ _).alloc (Nat.le_refl _) _).alloc (by simp) _
  · simp
set_option maxRecDepth 100000 in
set_option maxHeartbeats 1000000 in
theorem On.add (h : On p d N F W) (hN : N < 990000) (hs : name.length ≤ 1000000) :
    Calls Tryz.prog 175 #[.pointer (some ⟨d, 0, none⟩), .string (str name), .string (str xs)] W fun e W' => e = .returned (.int .i64 (p.add name xs).1) ∧ Left (p.add name xs).2 d (N + 4) F W W' := by
  by_cases hl : xs.length ≤ 65536
  · have C1 := Lib.hid (fun W => frame_c xs hl W)
    have HP := Lib.hid (show p.add name xs = runP p [(·.append name (fr xs)), (·.sync name)] from if_pos hl)
    have hnl : name.length ≤ maxLen := by unfold maxLen; omega
    have hfl : (fr xs).length ≤ 900000000 := by rw [fr_len]; omega
    have H := Lib.hid (And.intro h (And.intro hN (And.intro hnl hfl)))
    rw [HP.out]
    clear h hN hs hl HP hnl hfl
    generalize hf : str (fr xs) = f at *
    generalize hy : str name = y at *
    have HY := Lib.hid (And.intro hf hy)
    clear hf hy
    generalize str xs = z at *
    go_enter Tryz.func175, Tryz.ntmps175
    go_wp2_with fail
    refine (C1.out _).mono ?_
    rintro e w1 ⟨rfl, h1⟩
    have HB := Lib.hid h1; clear h1 C1
    go_wp2_with fail
    obtain ⟨⟨a0, a1⟩, hb1, hs1⟩ := allocs2 W (.cells #[.pointer (some ⟨d, 0, none⟩)] 26) (.cells #[.string y] 9)
    obtain ⟨⟨a2, a3⟩, hb2, hs2⟩ := allocs2 w1 (.cells #[.string f] 9) (.cells #[.func (.func 221) #[] #[.pointer (some ⟨W.heap.size, 0, none⟩), .pointer (some ⟨W.heap.size + 1, 0, none⟩), .pointer (some ⟨w1.heap.size, 0, none⟩)],
      .func (.func 223) #[] #[.pointer (some ⟨W.heap.size, 0, none⟩), .pointer (some ⟨W.heap.size + 1, 0, none⟩)]] 312)
    have hB := HB.out
    generalize (W.alloc (.cells #[.pointer (some ⟨d, 0, none⟩)] 26)).alloc (.cells #[.string y] 9) = W0 at *
    generalize (w1.alloc (.cells #[.string f] 9)).alloc (.cells #[.func (.func 221) #[] #[.pointer (some ⟨W.heap.size, 0, none⟩), .pointer (some ⟨W.heap.size + 1, 0, none⟩), .pointer (some ⟨w1.heap.size, 0, none⟩)],
      .func (.func 223) #[] #[.pointer (some ⟨W.heap.size, 0, none⟩), .pointer (some ⟨W.heap.size + 1, 0, none⟩)]] 312) = V at *
    have hs3 := hB.size
    have e0 : V.heap[W.heap.size]? = some (.cells #[.pointer (some ⟨d, 0, none⟩)] 26 (0, 0)) := (hb2.block _ (by omega)).trans ((hB.block _ (by omega)).trans a0)
    have e1 : V.heap[W.heap.size + 1]? = some (.cells #[.string y] 9 (0, 0)) := (hb2.block _ (by omega)).trans ((hB.block _ (by omega)).trans a1)
    have hbV : Below W.heap.size W V := hb1.trans ((hB.mono (by omega)).trans (hb2.mono (by omega)))
    have hfar : ∀ k, W.heap.size ≤ k → ¬ F k := fun k hk hf => by have := H.out.1.lt hf; omega
    have HR : Calls Tryz.prog 220 #[.slice (some ⟨w1.heap.size + 1, 0, none⟩) 2 2] V fun e W' => e = .returned (.int .i64 (runP p [(·.append name (fr xs)), (·.sync name)]).1) ∧ Left (runP p [(·.append name (fr xs)), (·.sync name)]).2 d (N + 2) F V W' := by
      have q0 : ∀ (F' : Nat → Prop) (U : World), Chg F F' V U → U.cell? ⟨W.heap.size, 0, none⟩ = some (.pointer (some ⟨d, 0, none⟩)) := fun F' U hc => cell_of ((hc.block _ (by omega) (hfar _ (by omega))).trans e0) 0
      have q1 : ∀ (F' : Nat → Prop) (U : World), Chg F F' V U → U.cell? ⟨W.heap.size + 1, 0, none⟩ = some (.string y) := fun F' U hc => cell_of ((hc.block _ (by omega) (hfar _ (by omega))).trans e1) 0
      have q2 : ∀ (F' : Nat → Prop) (U : World), Chg F F' V U → U.cell? ⟨w1.heap.size, 0, none⟩ = some (.string f) := fun F' U hc => cell_of ((hc.block _ (by omega) (hfar _ (by omega))).trans a2) 0
      have hN := H.out.2.1
      refine run_c [(221, #[.pointer (some ⟨W.heap.size, 0, none⟩), .pointer (some ⟨W.heap.size + 1, 0, none⟩), .pointer (some ⟨w1.heap.size, 0, none⟩)]), (223, #[.pointer (some ⟨W.heap.size, 0, none⟩), .pointer (some ⟨W.heap.size + 1, 0, none⟩)])]
        [(·.append name (fr xs)), (·.sync name)] rfl (w1.heap.size + 1) 2 (Nat.le_refl 2) (show 2 ≤ 1000 by omega) (H.out.1.below hbV) ?_ (by omega) (hfar _ (by omega)) ?_ ?_
      · intro k st hk
        match k, hk with
        | 0, hk => cases hk; exact cell_of a3 0
        | 1, hk => cases hk; exact cell_of a3 1
      · intro k st hk w
        match k, hk with
        | 0, hk => cases hk; exact enter_add1 _ _ _ w
        | 1, hk => cases hk; exact enter_add2 _ _ w
      · intro k st g hk hf q F' U h1 h2
        match k, hk, hf, h1 with
        | 0, hk, hf, h1 => cases hk; cases hf; exact add1_c (q0 _ _ h2) (q1 _ _ h2) (q2 _ _ h2) (HY.out.1 ▸ HY.out.2 ▸ h1.append (by omega) H.out.2.2.1 H.out.2.2.2)
        | 1, hk, hf, h1 => cases hk; cases hf; exact add2_c (q0 _ _ h2) (q1 _ _ h2) (HY.out.2 ▸ h1.sync (by omega) H.out.2.2.1)
    have HC := Lib.hid (And.intro HR hbV)
    clear HR a0 a1 a2 a3 e0 e1 hb1 hb2 hs1 hs2 hs3 hfar hB hbV HB
    refine HC.out.1.mono ?_
    rintro e W2 ⟨rfl, F', k1, k2⟩
    have HQ := Lib.hid (show Left (runP p [(·.append name (fr xs)), (·.sync name)]).2 d (N + 4) F W W2 from ⟨F', k1.mono (by omega), (Chg.of_below HC.out.2).trans k2⟩)
    clear k1 k2 HC
    go_wp2_with fail
    go_ret
    exact ⟨rfl, HQ.out⟩
  · have C1 := Lib.hid (fun W => frame_long (str xs) (by rw [str_size]; omega) W)
    have HP := Lib.hid (show p.add name xs = (3, p) from if_neg hl)
    have HL := Lib.hid (show On p d N F W from h)
    rw [HP.out]
    clear h hN hs hl HP
    generalize str name = y at *
    generalize str xs = z at *
    go_enter Tryz.func175, Tryz.ntmps175
    go_wp2_with fail
    refine (C1.out _).mono ?_
    rintro e w1 ⟨rfl, rfl⟩
    clear C1
    go_wp2_with fail
    go_ret
    have hb := (allocs3 W (.cells #[.pointer (some ⟨d, 0, none⟩)] 26) (.cells #[.string y] 9) (.cells #[.string (str [])] 9))
    exact ⟨rfl, F, (HL.out.below hb).mono (by omega), Chg.of_below hb⟩
end
end Go.Proofs.YtekoaheiapddiaaGreat.Dz
end
section
namespace Go.Proofs.YtekoaheiapddiaaGreat.Dz
open Go.RowKit

theorem readV_eq (o : Option Ent) : readV o = .tuple #[.string (str (bsE o)), .bool o.isSome] := by cases o <;> rfl
section
variable {p : Pd} {d N : Nat} {F : Nat → Prop} {W : World} {name : Nm}
set_option maxRecDepth 100000 in
theorem On.all (h : On p d N F W) (hs : name.length ≤ maxLen) {l : List Nm} {r : Nm} (hF : Fs (bsE (getE p.L name)) l r) :
    Calls Tryz.prog 53 #[.pointer (some ⟨d, 0, none⟩), .string (str name)] W fun e W' => ∃ v, e = .returned v ∧ OwnS W.heap.size l v W' ∧ Below W.heap.size W W' := by
  have C1 := Lib.hid (h.read hs)
  rw [readV_eq] at C1
  have hb := bs_le h.ok name
  have C2 := Lib.hid (fun W => frames_c (bsE (getE p.L name)) (by omega) W)
  have H := Lib.hid hF
  clear h hs hF hb
  generalize bsE (getE p.L name) = bs at *
  generalize str name = y at *
  generalize Option.isSome _ = q at *
  generalize str bs = z at *
  go_enter Tryz.func53, Tryz.ntmps53
  go_wp2_with fail
  refine C1.out.mono ?_
  rintro e w1 ⟨rfl, rfl⟩
  clear C1
  go_wp2_with fail
  refine (C2.out _).mono ?_
  rintro e w2 ⟨l2, r2, v, rfl, h1, h2, h3⟩
  obtain ⟨rfl, rfl⟩ := h1.inj H.out
  obtain ⟨va, vc, rfl⟩ := h2.form
  have HQ := Lib.hid (And.intro h2 h3)
  clear h1 h2 h3 C2
  go_wp2_with fail
  go_ret
  exact ⟨_, rfl, HQ.out⟩
end
end Go.Proofs.YtekoaheiapddiaaGreat.Dz
end
section
namespace Go.Proofs.YtekoaheiapddiaaGreat.Dz
open Go.RowKit

/-- A disk that runs. -/
structure Hl (p : Pd) : Prop where
  dead : p.dead = false
  after : p.after = -1
theorem Hl.tick {p : Pd} (h : Hl p) : p.tick = p := by
  cases p
  have := h.after
  simp only at this
  simp only [Pd.tick, this]
  rfl
section
variable {p : Pd} {s xs name : Nm}
theorem Hl.append (h : Hl p) (hu : usedE p.L + xs.length ≤ p.room) : p.append s xs = (0, p.app s xs) := by
  unfold Pd.append
  rw [if_neg (by rw [h.dead]; decide), if_neg (by rw [h.after]; decide), if_pos hu, h.tick]
theorem Hl.change (h : Hl p) {e : Ent} (hg : getE p.L s = some e) (f : Ent → List Ent) : p.change s f = (0, { p with L := f e }) := by
  unfold Pd.change
  rw [if_neg (by rw [h.dead]; decide), if_neg (by rw [h.after]; decide), hg, h.tick]
theorem Hl.with (h : Hl p) (L : List Ent) : Hl { p with L := L } := ⟨h.dead, h.after⟩
/-- The disk's list has these files, and else what it had. -/
theorem Hl.add (h : Hl p) (hp : p.Ok) (hs : xs.length ≤ 65536) (hu : usedE p.L + xs.length + 8 ≤ p.room) : ∃ q, p.add name xs = (0, q) ∧ Hl q ∧ q.room = p.room ∧ usedE q.L = usedE p.L + xs.length + 8 ∧
    getE q.L name = some ⟨name, bsE (getE p.L name) ++ fr xs, (bsE (getE p.L name) ++ fr xs).length⟩ ∧ ∀ t, t ≠ name → getE q.L t = getE p.L t := by
  have hfl : usedE p.L + (fr xs).length ≤ p.room := by rw [fr_len]; omega
  have ha := h.append (s := name) hfl
  have hg : getE (p.app name (fr xs)).L name = some ⟨name, bsE (getE p.L name) ++ fr xs, synE (getE p.L name)⟩ := by
    show getE (putE _ _) _ = _
    rw [getE_put, if_pos rfl]
  have hH : Hl (p.app name (fr xs)) := h.with _
  have hb := hH.change hg fun e => putE (p.app name (fr xs)).L ⟨name, e.bs, e.bs.length⟩
  refine ⟨{ p.app name (fr xs) with L := putE (p.app name (fr xs)).L ⟨name, bsE (getE p.L name) ++ fr xs, (bsE (getE p.L name) ++ fr xs).length⟩ }, ?_, hH.with _, rfl, ?_, ?_, ?_⟩
  · unfold Pd.add
    rw [if_pos hs]
    simp only [runP, ha, if_pos]
    rw [show (p.app name (fr xs)).sync name = _ from hb]
    simp only [if_pos]
  · have h1 := used_app hp name (fr xs)
    have h2 := usedE_put (hp.app (s := name) hfl).up ⟨name, bsE (getE p.L name) ++ fr xs, (bsE (getE p.L name) ++ fr xs).length⟩
    simp only [hg, lenE] at h2
    rw [fr_len] at h1
    show usedE (putE _ _) = _
    omega
  · show getE (putE _ _) _ = _
    rw [getE_put, if_pos rfl]
  · intro t ht
    show getE (putE _ _) _ = _
    rw [getE_put, if_neg ht]
    show getE (putE _ _) _ = _
    rw [getE_put, if_neg ht]
end
theorem Hl.new (room : Nat) : Hl (Pd.new room) := ⟨rfl, rfl⟩
end Go.Proofs.YtekoaheiapddiaaGreat.Dz
end
