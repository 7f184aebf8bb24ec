/- Merged: Qi, Qj, Qk, Ql, Qm, Qo. -/
import Derived.Test.YtceagpnonkmfdaaGreatM04
import Derived.Test.YtceagpnonkmfdaaGreatM06
import Derived.SliceStrings
import Derived.Carry
import Derived.ProofKit
import Derived.OpenShut
import Derived.ChangeMaps5
section
namespace Go.Proofs.YtceagpnonkmfdaaGreat.Dz
open Go.RowKit

set_option maxRecDepth 100000 in
set_option maxHeartbeats 1000000 in
theorem inOrder_c (steps : List (FuncId × Array Value)) (g c : Nat) (hc : steps.length ≤ c) (hl : steps.length ≤ 1000) (Q : Nat → World → Prop) (R : Int → World → Prop) (W : World) (h0 : Q 0 W)
    (hcell : ∀ (k : Nat) (V : World) (st : FuncId × Array Value), Q k V → steps[k]? = some st → V.cell? ⟨g, k, none⟩ = some (.func (.func st.1) #[] st.2))
    (hen : ∀ (k : Nat) (st : FuncId × Array Value), steps[k]? = some st → ∀ w, (callFunc st.1 st.2).run Tryz.prog w = .ok (.enter st.1 st.2) w)
    (hstep : ∀ (k : Nat) (st : FuncId × Array Value) (V : World), steps[k]? = some st → Q k V → Calls Tryz.prog st.1 st.2 V fun e V' => ∃ r, e = .returned (.int .i64 r) ∧ ((r = 0 ∧ Q (k + 1) V') ∨ (r ≠ 0 ∧ R r V'))) :
    Calls Tryz.prog 134 #[.slice (some ⟨g, 0, none⟩) steps.length c] W fun e W' => ∃ r, e = .returned (.int .i64 r) ∧ ((r = 0 ∧ Q steps.length W') ∨ (r ≠ 0 ∧ R r W')) := by
  have H := Lib.hid (And.intro hcell (And.intro hen hstep))
  have HQ0 := Lib.hid h0
  obtain ⟨n, hn⟩ : ∃ n, n = steps.length := ⟨_, rfl⟩
  have hni : (n : Int) ≤ 1000 := by omega
  have hci : (n : Int) ≤ (c : Int) := by omega
  have HN := Lib.hid hn
  rw [← hn]
  clear hcell hen hstep h0 hc hl hn
  go_enter Tryz.func134, Tryz.ntmps134
  go_wp2_with fail
  go_loopw [8] (fun i wr => ∃ k : Nat, k ≤ n ∧ i = .int .i64 k ∧ Q k wr) (fun i _ => n - (intOf i).toNat)
  case atStart => exact ⟨0, by omega, rfl, HQ0.out⟩
  case round =>
    obtain ⟨k, hk, rfl, hq⟩ := hrel
    by_cases hlt : k < n
    · obtain ⟨st, hst⟩ : ∃ st, steps[k]? = some st := ⟨_, List.getElem?_eq_getElem (by have := HN.out; omega)⟩
      have d1 := H.out.1 k _ st hq hst
      have hf := H.out.2.1 k st hst
      have HC := Lib.hid (H.out.2.2 k st _ hst hq)
      have hlti : (k : Int) < (n : Int) := by omega
      have hw : IntKind.i64.wrap ((k : Int) + 1) = (k : Int) + 1 := IntWalk.i64_in _ (by omega)
      clear hq hst H HQ0 HN
      obtain ⟨nf, caps⟩ := st
      go_wp2_with fail
      refine HC.out.mono ?_
      rintro e V' ⟨r, rfl, hq⟩
      rcases hq with ⟨rfl, hq⟩ | ⟨hr, hq⟩
      · have HQ := Lib.hid hq
        clear hq HC d1
        go_wp2_with fail
        go_roundw
        case rel => exact ⟨k + 1, by omega, by go_num, HQ.out⟩
        case measure => simp [intOf]; omega
      · have HQ := Lib.hid (And.intro hr hq)
        have hrb : (r == 0) = false := by simpa using hr
        clear hq HC d1
        go_wp2_with fail
        go_ret
        exact ⟨r, rfl, Or.inr HQ.out⟩
    · obtain rfl : k = n := by omega
      have HQ := Lib.hid hq
      clear hq H
      go_wp2_with fail
      go_ret
      exact ⟨0, rfl, Or.inl ⟨rfl, HQ.out⟩⟩
/-- The other name: .new behind it. -/
def fresh (s : Nm) : Nm := s ++ [46, 110, 101, 119]
def Pd.discard (p : Pd) (s : Nm) : Int × Pd :=
  match getE p.L s with
  | none => (0, p)
  | some _ => p.delete s
section
variable {p : Pd} {d N : Nat} {F : Nat → Prop} {W : World} {s xs : Nm}
theorem On.left (h : On p d N F W) : Left p d (N + 1) F W W := by
  obtain ⟨hp, x, rfl, rfl, h1, h2, h3⟩ := h
  exact ⟨_, ⟨hp, x, rfl, rfl, h1, by omega, h3⟩, Chg.refl _ _⟩
end
end Go.Proofs.YtceagpnonkmfdaaGreat.Dz
end
section
namespace Go.Proofs.YtceagpnonkmfdaaGreat.Dz
open Go.RowKit

def runP (p : Pd) : List (Pd → Int × Pd) → Int × Pd
  | [] => (0, p)
  | f :: r => if (f p).1 = 0 then runP (f p).2 r else f p
section
variable {p : Pd} {d N : Nat} {F : Nat → Prop} {W : World} {s xs : Nm}
theorem On.mono (h : On p d N F W) {M : Nat} (hM : N ≤ M) : On p d M F W := by
  obtain ⟨hp, x, h1, h2, h3, h4, h5⟩ := h
  exact ⟨hp, x, h1, h2, h3, by omega, h5⟩
theorem Left.mono {W' : World} (h : Left p d N F W W') {M : Nat} (hM : N ≤ M) : Left p d M F W W' := by
  obtain ⟨F', h1, h2⟩ := h
  exact ⟨F', h1.mono hM, h2⟩
theorem run_c (steps : List (FuncId × Array Value)) (fs : List (Pd → Int × Pd)) (hfs : fs.length = steps.length) (g c : Nat) (hc : steps.length ≤ c) (hl : steps.length ≤ 1000) (h : On p d N F W)
    (hg : ∀ (k : Nat) (st : FuncId × Array Value), steps[k]? = some st → W.cell? ⟨g, k, none⟩ = some (.func (.func st.1) #[] st.2)) (hgs : g < W.heap.size) (hgF : ¬ F g)
    (hen : ∀ (k : Nat) (st : FuncId × Array Value), steps[k]? = some st → ∀ w, (callFunc st.1 st.2).run Tryz.prog w = .ok (.enter st.1 st.2) w)
    (hstep : ∀ (k : Nat) (st : FuncId × Array Value) (f : Pd → Int × Pd), steps[k]? = some st → fs[k]? = some f → ∀ (q : Pd) (F' : Nat → Prop) (V : World), On q d (N + k) F' V → Chg F F' W V →
      Calls Tryz.prog st.1 st.2 V fun e V' => e = .returned (.int .i64 (f q).1) ∧ Left (f q).2 d (N + k + 1) F' V V') :
    Calls Tryz.prog 134 #[.slice (some ⟨g, 0, none⟩) steps.length c] W fun e W' => e = .returned (.int .i64 (runP p fs).1) ∧ Left (runP p fs).2 d (N + steps.length) F W W' := by
  refine (inOrder_c steps g c hc hl (fun k V => ∃ q F', On q d (N + k) F' V ∧ Chg F F' W V ∧ runP p fs = runP q (fs.drop k)) (fun r V => ∃ q F', On q d (N + steps.length) F' V ∧ Chg F F' W V ∧ runP p fs = (r, q)) W ⟨p, F, h, Chg.refl _ _, rfl⟩ ?_ hen ?_).mono ?_
  · rintro k V st ⟨q, F', h1, h2, h3⟩ hst
    exact (World.cell?_of_block (h2.block g hgs hgF)).trans (hg k st hst)
  · rintro k st V hst ⟨q, F', h1, h2, h3⟩
    have hk : k < steps.length := by
      rcases Nat.lt_or_ge k steps.length with h | h
      · exact h
      · rw [List.getElem?_eq_none h] at hst; cases hst
    obtain ⟨f, hf⟩ : ∃ f, fs[k]? = some f := ⟨_, List.getElem?_eq_getElem (by omega)⟩
    have hd : fs.drop k = f :: fs.drop (k + 1) := by
      have hkf : k < fs.length := by omega
      rw [List.drop_eq_getElem_cons hkf]
      rw [List.getElem?_eq_getElem hkf] at hf
      injection hf with hf
      rw [hf]
    refine (hstep k st f hst hf q F' V h1 h2).mono ?_
    rintro e V' ⟨rfl, F2, k1, k2⟩
    refine ⟨_, rfl, ?_⟩
    by_cases hz : (f q).1 = 0
    · exact Or.inl ⟨hz, _, F2, k1, h2.trans k2, by rw [h3, hd, runP, if_pos hz]⟩
    · exact Or.inr ⟨hz, _, F2, k1.mono (by omega), h2.trans k2, by rw [h3, hd, runP, if_neg hz]⟩
  · rintro e W' ⟨r, rfl, hq⟩
    rcases hq with ⟨rfl, q, F', h1, h2, h3⟩ | ⟨_, q, F', h1, h2, h3⟩
    · rw [List.drop_of_length_le (by omega)] at h3
      rw [h3]
      exact ⟨rfl, F', h1, h2⟩
    · rw [h3]
      exact ⟨rfl, F', h1, h2⟩
end
theorem enter_add1 (b0 b1 b2 : Value) (w : World) : (callFunc 135 #[b0, b1, b2]).run Tryz.prog w = .ok (.enter 135 #[b0, b1, b2]) w := by kernel_rfl
set_option maxRecDepth 100000 in
theorem add1_c {V : World} {d b0 b1 b2 : Nat} {y1 y2 : ByteArray} {r : Int} {L : World → Prop} (c0 : V.cell? ⟨b0, 0, none⟩ = some (.pointer (some ⟨d, 0, none⟩))) (c1 : V.cell? ⟨b1, 0, none⟩ = some (.string y1)) (c2 : V.cell? ⟨b2, 0, none⟩ = some (.string y2))
    (C : Calls Tryz.prog 136 #[.pointer (some ⟨d, 0, none⟩), .string y1, .string y2] V fun e V' => e = .returned (.int .i64 r) ∧ L V') :
    Calls Tryz.prog 135 #[.pointer (some ⟨b0, 0, none⟩), .pointer (some ⟨b1, 0, none⟩), .pointer (some ⟨b2, 0, none⟩)] V fun e V' => e = .returned (.int .i64 r) ∧ L V' := by
  have HC := Lib.hid C
  clear C
  go_enter Tryz.func135, Tryz.ntmps135
  go_wp2_with fail
  refine HC.out.mono ?_
  rintro e W2 ⟨rfl, hq⟩
  have HQ := Lib.hid hq
  clear hq HC
  go_wp2_with fail
  go_ret
  exact ⟨rfl, HQ.out⟩
theorem enter_add2 (b0 b1 : Value) (w : World) : (callFunc 137 #[b0, b1]).run Tryz.prog w = .ok (.enter 137 #[b0, b1]) w := by kernel_rfl
set_option maxRecDepth 100000 in
theorem add2_c {V : World} {d b0 b1 : Nat} {y1 : ByteArray} {r : Int} {L : World → Prop} (c0 : V.cell? ⟨b0, 0, none⟩ = some (.pointer (some ⟨d, 0, none⟩))) (c1 : V.cell? ⟨b1, 0, none⟩ = some (.string y1))
    (C : Calls Tryz.prog 138 #[.pointer (some ⟨d, 0, none⟩), .string y1] V fun e V' => e = .returned (.int .i64 r) ∧ L V') :
    Calls Tryz.prog 137 #[.pointer (some ⟨b0, 0, none⟩), .pointer (some ⟨b1, 0, none⟩)] V fun e V' => e = .returned (.int .i64 r) ∧ L V' := by
  have HC := Lib.hid C
  clear C
  go_enter Tryz.func137, Tryz.ntmps137
  go_wp2_with fail
  refine HC.out.mono ?_
  rintro e W2 ⟨rfl, hq⟩
  have HQ := Lib.hid hq
  clear hq HC
  go_wp2_with fail
  go_ret
  exact ⟨rfl, HQ.out⟩
end Go.Proofs.YtceagpnonkmfdaaGreat.Dz
end
section
namespace Go.Proofs.YtceagpnonkmfdaaGreat.Dz
open Go.RowKit

def Pd.exchange (p : Pd) (name s : Nm) : Int × Pd := runP p [(·.discard (fresh name)), (·.append (fresh name) s), (·.sync (fresh name)), (·.rename (fresh name) name)]
theorem allocs5 (W : World) (o0 o1 o2 o3 o4 : Obj) : ((((((W.alloc o0).alloc o1).alloc o2).alloc o3).alloc o4).heap[W.heap.size]? = some o0 ∧ (((((W.alloc o0).alloc o1).alloc o2).alloc o3).alloc o4).heap[W.heap.size + 1]? = some o1 ∧ (((((W.alloc o0).alloc o1).alloc o2).alloc o3).alloc o4).heap[W.heap.size + 2]? = some o2 ∧
    (((((W.alloc o0).alloc o1).alloc o2).alloc o3).alloc o4).heap[W.heap.size + 3]? = some o3 ∧ (((((W.alloc o0).alloc o1).alloc o2).alloc o3).alloc o4).heap[W.heap.size + 4]? = some o4) ∧ Below W.heap.size W (((((W.alloc o0).alloc o1).alloc o2).alloc o3).alloc o4) ∧ (((((W.alloc o0).alloc o1).alloc o2).alloc o3).alloc o4).heap.size = W.heap.size + 5 := by
  refine ⟨?_, ?_, ?_⟩
  · simp only [World.alloc, Array.getElem?_push, Array.size_push]
    refine ⟨?_, ?_, ?_, ?_, ?_⟩ <;> ((repeat first | rw [if_neg (by omega)]); first | exact if_pos trivial | exact if_pos rfl | rw [if_pos (by omega)])
  · exact (((((Below.refl _ _).alloc (Nat.le_refl _) _).alloc (by simp) _).alloc (by simp; omega) _).alloc (by simp; omega) _).alloc (by simp; omega) _
  · simp
theorem allocs4 (W : World) (o0 o1 o2 o3 : Obj) : (((((W.alloc o0).alloc o1).alloc o2).alloc o3).heap[W.heap.size]? = some o0 ∧ ((((W.alloc o0).alloc o1).alloc o2).alloc o3).heap[W.heap.size + 1]? = some o1 ∧ ((((W.alloc o0).alloc o1).alloc o2).alloc o3).heap[W.heap.size + 2]? = some o2 ∧
    ((((W.alloc o0).alloc o1).alloc o2).alloc o3).heap[W.heap.size + 3]? = some o3) ∧ Below W.heap.size W ((((W.alloc o0).alloc o1).alloc o2).alloc o3) ∧ ((((W.alloc o0).alloc o1).alloc o2).alloc o3).heap.size = W.heap.size + 4 := by
  refine ⟨?_, ?_, ?_⟩
  · simp only [World.alloc, Array.getElem?_push, Array.size_push]
    refine ⟨?_, ?_, ?_, ?_⟩ <;> ((repeat first | rw [if_neg (by omega)]); first | exact if_pos trivial | exact if_pos rfl | rw [if_pos (by omega)])
  · exact ((((Below.refl _ _).alloc (Nat.le_refl _) _).alloc (by simp) _).alloc (by simp; omega) _).alloc (by simp; omega) _
  · simp
section
variable {p : Pd} {d N : Nat} {F : Nat → Prop} {W : World} {s xs name : Nm}
theorem On.lt (h : On p d N F W) {k : Nat} (hk : F k) : k < W.heap.size := by
  obtain ⟨hp, x, rfl, rfl, h1, h2, h3⟩ := h
  exact h1.lt hk
theorem On.below (h : On p d N F W) {W' : World} (hb : Below W.heap.size W W') : On p d N F W' := by
  obtain ⟨hp, x, rfl, rfl, h1, h2, h3⟩ := h
  exact ⟨hp, x, rfl, rfl, h1.below hb, h2, h3⟩
theorem On.kept (h : On p d N F W) {W' : World} (hk : ∀ k, F k → W'.heap[k]? = W.heap[k]?) : On p d N F W' := by
  obtain ⟨hp, x, rfl, rfl, h1, h2, h3⟩ := h
  exact ⟨hp, x, rfl, rfl, h1.kept hk, h2, h3⟩
def Pd.add (p : Pd) (name s : Nm) : Int × Pd := if s.length ≤ 65536 then runP p [(·.append name (fr s)), (·.sync name)] else (3, p)
def Pd.replace (p : Pd) (name s : Nm) : Int × Pd := if s.length ≤ 65536 then p.exchange name (fr s) else (3, p)
theorem allocs3 (W : World) (o0 o1 o2 : Obj) : Below W.heap.size W (((W.alloc o0).alloc o1).alloc o2) := (((Below.refl _ _).alloc (Nat.le_refl _) _).alloc (by simp) _).alloc (by simp; omega) _
theorem allocs2 (W : World) (o0 o1 : Obj) : (((W.alloc o0).alloc o1).heap[W.heap.size]? = some o0 ∧ ((W.alloc o0).alloc o1).heap[W.heap.size + 1]? = some o1) ∧ Below W.heap.size W ((W.alloc o0).alloc o1) ∧ ((W.alloc o0).alloc o1).heap.size = W.heap.size + 2 := by
  refine ⟨?_, ?_, ?_⟩
  · simp only [World.alloc, Array.getElem?_push, Array.size_push]
    refine ⟨?_, ?_⟩ <;> ((repeat first | rw [if_neg (by omega)]); first | exact if_pos trivial | exact if_pos rfl | rw [if_pos (by omega)])
  · exact ((Below.refl _ _).alloc (Nat.le_refl _) _).alloc (by simp) _
  · simp
set_option maxRecDepth 100000 in
set_option maxHeartbeats 1000000 in
theorem On.add (h : On p d N F W) (hN : N < 990000) (hs : name.length ≤ 1000000) :
    Calls Tryz.prog 107 #[.pointer (some ⟨d, 0, none⟩), .string (str name), .string (str xs)] W fun e W' => e = .returned (.int .i64 (p.add name xs).1) ∧ Left (p.add name xs).2 d (N + 4) F W W' := by
  by_cases hl : xs.length ≤ 65536
  · have C1 := Lib.hid (fun W => frame_c xs hl W)
    have HP := Lib.hid (show p.add name xs = runP p [(·.append name (fr xs)), (·.sync name)] from if_pos hl)
    have hnl : name.length ≤ maxLen := by unfold maxLen; omega
    have hfl : (fr xs).length ≤ 900000000 := by rw [fr_len]; omega
    have H := Lib.hid (And.intro h (And.intro hN (And.intro hnl hfl)))
    rw [HP.out]
    clear h hN hs hl HP hnl hfl
    generalize hf : str (fr xs) = f at *
    generalize hy : str name = y at *
    have HY := Lib.hid (And.intro hf hy)
    clear hf hy
    generalize str xs = z at *
    go_enter Tryz.func107, Tryz.ntmps107
    go_wp2_with fail
    refine (C1.out _).mono ?_
    rintro e w1 ⟨rfl, h1⟩
    have HB := Lib.hid h1; clear h1 C1
    go_wp2_with fail
    obtain ⟨⟨a0, a1⟩, hb1, hs1⟩ := allocs2 W (.cells #[.pointer (some ⟨d, 0, none⟩)] 26) (.cells #[.string y] 9)
    obtain ⟨⟨a2, a3⟩, hb2, hs2⟩ := allocs2 w1 (.cells #[.string f] 9) (.cells #[.func (.func 135) #[] #[.pointer (some ⟨W.heap.size, 0, none⟩), .pointer (some ⟨W.heap.size + 1, 0, none⟩), .pointer (some ⟨w1.heap.size, 0, none⟩)],
      .func (.func 137) #[] #[.pointer (some ⟨W.heap.size, 0, none⟩), .pointer (some ⟨W.heap.size + 1, 0, none⟩)]] 227)
    have hB := HB.out
    generalize (W.alloc (.cells #[.pointer (some ⟨d, 0, none⟩)] 26)).alloc (.cells #[.string y] 9) = W0 at *
    generalize (w1.alloc (.cells #[.string f] 9)).alloc (.cells #[.func (.func 135) #[] #[.pointer (some ⟨W.heap.size, 0, none⟩), .pointer (some ⟨W.heap.size + 1, 0, none⟩), .pointer (some ⟨w1.heap.size, 0, none⟩)],
      .func (.func 137) #[] #[.pointer (some ⟨W.heap.size, 0, none⟩), .pointer (some ⟨W.heap.size + 1, 0, none⟩)]] 227) = V at *
    have hs3 := hB.size
    have e0 : V.heap[W.heap.size]? = some (.cells #[.pointer (some ⟨d, 0, none⟩)] 26 (0, 0)) := (hb2.block _ (by omega)).trans ((hB.block _ (by omega)).trans a0)
    have e1 : V.heap[W.heap.size + 1]? = some (.cells #[.string y] 9 (0, 0)) := (hb2.block _ (by omega)).trans ((hB.block _ (by omega)).trans a1)
    have hbV : Below W.heap.size W V := hb1.trans ((hB.mono (by omega)).trans (hb2.mono (by omega)))
    have hfar : ∀ k, W.heap.size ≤ k → ¬ F k := fun k hk hf => by have := H.out.1.lt hf; omega
    have HR : Calls Tryz.prog 134 #[.slice (some ⟨w1.heap.size + 1, 0, none⟩) 2 2] V fun e W' => e = .returned (.int .i64 (runP p [(·.append name (fr xs)), (·.sync name)]).1) ∧ Left (runP p [(·.append name (fr xs)), (·.sync name)]).2 d (N + 2) F V W' := by
      have q0 : ∀ (F' : Nat → Prop) (U : World), Chg F F' V U → U.cell? ⟨W.heap.size, 0, none⟩ = some (.pointer (some ⟨d, 0, none⟩)) := fun F' U hc => cell_of ((hc.block _ (by omega) (hfar _ (by omega))).trans e0) 0
      have q1 : ∀ (F' : Nat → Prop) (U : World), Chg F F' V U → U.cell? ⟨W.heap.size + 1, 0, none⟩ = some (.string y) := fun F' U hc => cell_of ((hc.block _ (by omega) (hfar _ (by omega))).trans e1) 0
      have q2 : ∀ (F' : Nat → Prop) (U : World), Chg F F' V U → U.cell? ⟨w1.heap.size, 0, none⟩ = some (.string f) := fun F' U hc => cell_of ((hc.block _ (by omega) (hfar _ (by omega))).trans a2) 0
      have hN := H.out.2.1
      refine run_c [(135, #[.pointer (some ⟨W.heap.size, 0, none⟩), .pointer (some ⟨W.heap.size + 1, 0, none⟩), .pointer (some ⟨w1.heap.size, 0, none⟩)]), (137, #[.pointer (some ⟨W.heap.size, 0, none⟩), .pointer (some ⟨W.heap.size + 1, 0, none⟩)])]
        [(·.append name (fr xs)), (·.sync name)] rfl (w1.heap.size + 1) 2 (Nat.le_refl 2) (show 2 ≤ 1000 by omega) (H.out.1.below hbV) ?_ (by omega) (hfar _ (by omega)) ?_ ?_
      · intro k st hk
        match k, hk with
        | 0, hk => cases hk; exact cell_of a3 0
        | 1, hk => cases hk; exact cell_of a3 1
      · intro k st hk w
        match k, hk with
        | 0, hk => cases hk; exact enter_add1 _ _ _ w
        | 1, hk => cases hk; exact enter_add2 _ _ w
      · intro k st g hk hf q F' U h1 h2
        match k, hk, hf, h1 with
        | 0, hk, hf, h1 => cases hk; cases hf; exact add1_c (q0 _ _ h2) (q1 _ _ h2) (q2 _ _ h2) (HY.out.1 ▸ HY.out.2 ▸ h1.append (by omega) H.out.2.2.1 H.out.2.2.2)
        | 1, hk, hf, h1 => cases hk; cases hf; exact add2_c (q0 _ _ h2) (q1 _ _ h2) (HY.out.2 ▸ h1.sync (by omega) H.out.2.2.1)
    have HC := Lib.hid (And.intro HR hbV)
    clear HR a0 a1 a2 a3 e0 e1 hb1 hb2 hs1 hs2 hs3 hfar hB hbV HB
    refine HC.out.1.mono ?_
    rintro e W2 ⟨rfl, F', k1, k2⟩
    have HQ := Lib.hid (show Left (runP p [(·.append name (fr xs)), (·.sync name)]).2 d (N + 4) F W W2 from ⟨F', k1.mono (by omega), (Chg.of_below HC.out.2).trans k2⟩)
    clear k1 k2 HC
    go_wp2_with fail
    go_ret
    exact ⟨rfl, HQ.out⟩
  · have C1 := Lib.hid (fun W => frame_long (str xs) (by rw [str_size]; omega) W)
    have HP := Lib.hid (show p.add name xs = (3, p) from if_neg hl)
    have HL := Lib.hid (show On p d N F W from h)
    rw [HP.out]
    clear h hN hs hl HP
    generalize str name = y at *
    generalize str xs = z at *
    go_enter Tryz.func107, Tryz.ntmps107
    go_wp2_with fail
    refine (C1.out _).mono ?_
    rintro e w1 ⟨rfl, rfl⟩
    clear C1
    go_wp2_with fail
    go_ret
    have hb := (allocs3 W (.cells #[.pointer (some ⟨d, 0, none⟩)] 26) (.cells #[.string y] 9) (.cells #[.string (str [])] 9))
    exact ⟨rfl, F, (HL.out.below hb).mono (by omega), Chg.of_below hb⟩
end
end Go.Proofs.YtceagpnonkmfdaaGreat.Dz
end
section
namespace Go.Proofs.YtceagpnonkmfdaaGreat.Dz
open Go.RowKit

theorem readV_eq (o : Option Ent) : readV o = .tuple #[.string (str (bsE o)), .bool o.isSome] := by cases o <;> rfl
/-- The one text of a file. -/
def wholeP (s : Nm) : Option Nm :=
  match firstP s with
  | none => none
  | some t => if s.length = t.length + 8 then some t else none
theorem Fs.exist (s : Nm) : ∃ l r, Fs s l r := by
  generalize hn : s.length = n
  induction n using Nat.strongRecOn generalizing s with
  | _ n ih =>
    cases h : firstP s with
    | none => exact ⟨[], s, rfl, by simp, h⟩
    | some t =>
      obtain ⟨h1, r, rfl⟩ := firstP_some.1 h
      rw [List.length_append, fr_len] at hn
      obtain ⟨l, q, k⟩ := ih r.length (by omega) r rfl
      exact ⟨t :: l, q, by rw [frs, List.append_assoc, ← k.eq], fun u hu => by
        rcases List.mem_cons.1 hu with rfl | hu
        · exact h1
        · exact k.all u hu, k.none⟩
theorem wholeP_some {s t : Nm} : wholeP s = some t ↔ t.length ≤ 65536 ∧ s = fr t := by
  unfold wholeP
  constructor
  · intro h
    cases hf : firstP s with
    | none => rw [hf] at h; cases h
    | some u =>
      rw [hf] at h
      simp only at h
      split at h
      · rename_i hl
        cases h
        obtain ⟨h1, r, rfl⟩ := firstP_some.1 hf
        rw [List.length_append, fr_len] at hl
        have : r = [] := List.eq_nil_of_length_eq_zero (by omega)
        exact ⟨h1, by rw [this, List.append_nil]⟩
      · cases h
  · rintro ⟨h1, rfl⟩
    have := firstP_fr h1 []
    rw [List.append_nil] at this
    rw [this]
    simp only
    rw [if_pos (fr_len t)]
section
variable {p : Pd} {d N : Nat} {F : Nat → Prop} {W : World} {name : Nm}
set_option maxRecDepth 100000 in
theorem On.all (h : On p d N F W) (hs : name.length ≤ maxLen) {l : List Nm} {r : Nm} (hF : Fs (bsE (getE p.L name)) l r) :
    Calls Tryz.prog 27 #[.pointer (some ⟨d, 0, none⟩), .string (str name)] W fun e W' => ∃ v, e = .returned v ∧ OwnS W.heap.size l v W' ∧ Below W.heap.size W W' := by
  have C1 := Lib.hid (h.read hs)
  rw [readV_eq] at C1
  have hb := bs_le h.ok name
  have C2 := Lib.hid (fun W => frames_c (bsE (getE p.L name)) (by omega) W)
  have H := Lib.hid hF
  clear h hs hF hb
  generalize bsE (getE p.L name) = bs at *
  generalize str name = y at *
  generalize Option.isSome _ = q at *
  generalize str bs = z at *
  go_enter Tryz.func27, Tryz.ntmps27
  go_wp2_with fail
  refine C1.out.mono ?_
  rintro e w1 ⟨rfl, rfl⟩
  clear C1
  go_wp2_with fail
  refine (C2.out _).mono ?_
  rintro e w2 ⟨l2, r2, v, rfl, h1, h2, h3⟩
  obtain ⟨rfl, rfl⟩ := h1.inj H.out
  obtain ⟨va, vc, rfl⟩ := h2.form
  have HQ := Lib.hid (And.intro h2 h3)
  clear h1 h2 h3 C2
  go_wp2_with fail
  go_ret
  exact ⟨_, rfl, HQ.out⟩
end
/-- A file's bytes are these frames now. -/
def Pd.mendW (p : Pd) (name g : Nm) : Int × Pd :=
  if g.length = (bsE (getE p.L name)).length then (0, p) else if g.length = 0 then runP p [(·.discard (fresh name)), (·.delete name)] else p.exchange name g
section
variable {p : Pd} {d N : Nat} {F : Nat → Prop} {W : World} {name : Nm}
end
end Go.Proofs.YtceagpnonkmfdaaGreat.Dz
end
section
namespace Go.Proofs.YtceagpnonkmfdaaGreat.Dz
open Go.RowKit

theorem min_nat (q : Int) {n k : Nat} (hq : q = if (k : Int) < (n : Int) then (k : Int) else (n : Int)) : ∃ m : Nat, q = (m : Int) ∧ m ≤ n ∧ m ≤ k := by
  by_cases h : (k : Int) < (n : Int)
  · rw [if_pos h] at hq; exact ⟨k, hq, by omega, by omega⟩
  · rw [if_neg h] at hq; exact ⟨n, hq, by omega, by omega⟩
theorem long_ok {s : Nm} (h : s.length ≤ 1000) : s.length ≤ maxLen := by unfold maxLen; omega
/-- A disk that runs. -/
structure Hl (p : Pd) : Prop where
  dead : p.dead = false
  after : p.after = -1
theorem Hl.tick {p : Pd} (h : Hl p) : p.tick = p := by
  cases p
  have := h.after
  simp only at this
  simp only [Pd.tick, this]
  rfl
section
variable {p : Pd} {s xs name : Nm}
theorem Hl.append (h : Hl p) (hu : usedE p.L + xs.length ≤ p.room) : p.append s xs = (0, p.app s xs) := by
  unfold Pd.append
  rw [if_neg (by rw [h.dead]; decide), if_neg (by rw [h.after]; decide), if_pos hu, h.tick]
theorem Hl.change (h : Hl p) {e : Ent} (hg : getE p.L s = some e) (f : Ent → List Ent) : p.change s f = (0, { p with L := f e }) := by
  unfold Pd.change
  rw [if_neg (by rw [h.dead]; decide), if_neg (by rw [h.after]; decide), hg, h.tick]
theorem Hl.with (h : Hl p) (L : List Ent) : Hl { p with L := L } := ⟨h.dead, h.after⟩
/-- The disk's list has these files, and else what it had. -/
theorem Hl.add (h : Hl p) (hp : p.Ok) (hs : xs.length ≤ 65536) (hu : usedE p.L + xs.length + 8 ≤ p.room) : ∃ q, p.add name xs = (0, q) ∧ Hl q ∧ q.room = p.room ∧ usedE q.L = usedE p.L + xs.length + 8 ∧
    getE q.L name = some ⟨name, bsE (getE p.L name) ++ fr xs, (bsE (getE p.L name) ++ fr xs).length⟩ ∧ ∀ t, t ≠ name → getE q.L t = getE p.L t := by
  have hfl : usedE p.L + (fr xs).length ≤ p.room := by rw [fr_len]; omega
  have ha := h.append (s := name) hfl
  have hg : getE (p.app name (fr xs)).L name = some ⟨name, bsE (getE p.L name) ++ fr xs, synE (getE p.L name)⟩ := by
    show getE (putE _ _) _ = _
    rw [getE_put, if_pos rfl]
  have hH : Hl (p.app name (fr xs)) := h.with _
  have hb := hH.change hg fun e => putE (p.app name (fr xs)).L ⟨name, e.bs, e.bs.length⟩
  refine ⟨{ p.app name (fr xs) with L := putE (p.app name (fr xs)).L ⟨name, bsE (getE p.L name) ++ fr xs, (bsE (getE p.L name) ++ fr xs).length⟩ }, ?_, hH.with _, rfl, ?_, ?_, ?_⟩
  · unfold Pd.add
    rw [if_pos hs]
    simp only [runP, ha, if_pos]
    rw [show (p.app name (fr xs)).sync name = _ from hb]
    simp only [if_pos]
  · have h1 := used_app hp name (fr xs)
    have h2 := usedE_put (hp.app (s := name) hfl).up ⟨name, bsE (getE p.L name) ++ fr xs, (bsE (getE p.L name) ++ fr xs).length⟩
    simp only [hg, lenE] at h2
    rw [fr_len] at h1
    show usedE (putE _ _) = _
    omega
  · show getE (putE _ _) _ = _
    rw [getE_put, if_pos rfl]
  · intro t ht
    show getE (putE _ _) _ = _
    rw [getE_put, if_neg ht]
    show getE (putE _ _) _ = _
    rw [getE_put, if_neg ht]
theorem runP_cons {f : Pd → Int × Pd} {r : List (Pd → Int × Pd)} {q : Pd} (h : f p = (0, q)) : runP p (f :: r) = runP q r := by
  simp only [runP, h, if_pos]
theorem dropE_none {L : List Ent} (h : getE L s = none) : dropE L s = L := by
  induction L with
  | nil => rfl
  | cons x r ih =>
    simp only [getE] at h
    split at h
    · cases h
    · rename_i hx
      simp only [dropE]
      rw [if_neg hx, ih h]
theorem Hl.discard (h : Hl p) : p.discard s = (0, { p with L := dropE p.L s }) := by
  unfold Pd.discard
  cases hg : getE p.L s with
  | none => simp only [dropE_none hg]
  | some e => exact h.change hg fun _ => dropE p.L s
theorem fresh_ne (s : Nm) : fresh s ≠ s := fun h => by
  have := congrArg List.length h
  simp [fresh] at this
theorem Up.used_drop {L : List Ent} (s : Nm) : usedE (dropE L s) ≤ usedE L := by
  cases hg : getE L s with
  | none => rw [dropE_none hg]; exact Nat.le_refl _
  | some e => have := usedE_drop hg; omega
theorem Hl.exchange (h : Hl p) (hp : p.Ok) (hu : usedE p.L + s.length ≤ p.room) : ∃ q, p.exchange name s = (0, q) ∧ Hl q ∧ q.room = p.room ∧ usedE q.L ≤ usedE p.L + s.length ∧
    getE q.L name = some ⟨name, s, s.length⟩ ∧ getE q.L (fresh name) = none ∧ ∀ t, t ≠ name → t ≠ fresh name → getE q.L t = getE p.L t := by
  have hne := fresh_ne name
  have hL1 := hp.up.drop (fresh name)
  have hn1 : getE (dropE p.L (fresh name)) (fresh name) = none := by rw [getE_drop hp.up, if_pos rfl]
  have hu1 := Up.used_drop (L := p.L) (fresh name)
  have hu2 := usedE_put hL1 ⟨fresh name, s, 0⟩
  simp only [hn1, lenE] at hu2
  have hg2 : getE (putE (dropE p.L (fresh name)) ⟨fresh name, s, 0⟩) (fresh name) = some ⟨fresh name, s, 0⟩ := by rw [getE_put, if_pos rfl]
  have hL2 := hL1.put ⟨fresh name, s, 0⟩
  have hu3 := usedE_put hL2 ⟨fresh name, s, s.length⟩
  simp only [hg2, lenE] at hu3
  have hg3 : getE (putE (putE (dropE p.L (fresh name)) ⟨fresh name, s, 0⟩) ⟨fresh name, s, s.length⟩) (fresh name) = some ⟨fresh name, s, s.length⟩ := by rw [getE_put, if_pos rfl]
  have hL3 := hL2.put ⟨fresh name, s, s.length⟩
  have hu4 := usedE_put (hL3.drop (fresh name)) ⟨name, s, s.length⟩
  have hu5 := usedE_drop hg3
  simp only at hu4 hu5
  refine ⟨{ p with L := putE (dropE (putE (putE (dropE p.L (fresh name)) ⟨fresh name, s, 0⟩) ⟨fresh name, s, s.length⟩) (fresh name)) ⟨name, s, s.length⟩ }, ?_, h.with _, rfl, ?_, ?_, ?_, ?_⟩
  · unfold Pd.exchange
    rw [runP_cons h.discard]
    have e2 : ({ p with L := dropE p.L (fresh name) } : Pd).append (fresh name) s = (0, { p with L := putE (dropE p.L (fresh name)) ⟨fresh name, s, 0⟩ }) := by
      rw [(h.with _).append (by show usedE (dropE _ _) + s.length ≤ p.room; omega)]
      unfold Pd.app
      simp only [hn1, bsE, synE, List.nil_append]
    rw [runP_cons e2]
    rw [runP_cons ((h.with (putE (dropE p.L (fresh name)) ⟨fresh name, s, 0⟩)).change hg2 fun e => putE _ ⟨fresh name, e.bs, e.bs.length⟩)]
    rw [runP_cons ((h.with (putE (putE (dropE p.L (fresh name)) ⟨fresh name, s, 0⟩) ⟨fresh name, s, s.length⟩)).change hg3 fun e => putE (dropE _ (fresh name)) ⟨name, e.bs, e.syn⟩)]
    rfl
  · show usedE (putE _ _) ≤ _
    omega
  · show getE (putE _ _) _ = _
    rw [getE_put, if_pos rfl]
  · show getE (putE _ _) _ = _
    rw [getE_put, if_neg hne, getE_drop hL3, if_pos rfl]
  · intro t h1 h2
    show getE (putE _ _) _ = _
    rw [getE_put, if_neg h1, getE_drop hL3, if_neg h2, getE_put, if_neg h2, getE_put, if_neg h2, getE_drop hp.up, if_neg h2]
/-- A file that is mended has its frames, and no more. -/
theorem Hl.mend (h : Hl p) (hp : p.Ok) {l : List Nm} {r : Nm} (hF : Fs (bsE (getE p.L name)) l r) (hu : usedE p.L + (frs l).length ≤ p.room) : ∃ q, p.mendW name (frs l) = (0, q) ∧ Hl q ∧ q.room = p.room ∧ usedE q.L ≤ usedE p.L + (frs l).length ∧
    bsE (getE q.L name) = frs l ∧ ∀ t, t ≠ name → t ≠ fresh name → getE q.L t = getE p.L t := by
  have hlen := hF.len
  unfold Pd.mendW
  by_cases h0 : (frs l).length = (bsE (getE p.L name)).length
  · rw [if_pos h0]
    have hr : r = [] := List.eq_nil_of_length_eq_zero (by omega)
    exact ⟨p, rfl, h, rfl, by omega, by rw [hF.eq, hr, List.append_nil], fun _ _ _ => rfl⟩
  · rw [if_neg h0]
    by_cases h1 : (frs l).length = 0
    · rw [if_pos h1]
      cases hg : getE p.L name with
      | none => rw [hg] at h0; exact absurd (by rw [h1]; rfl) h0
      | some e =>
        have hgd : getE (dropE p.L (fresh name)) name = some e := by rw [getE_drop hp.up, if_neg (Ne.symm (fresh_ne name))]; exact hg
        refine ⟨{ p with L := dropE (dropE p.L (fresh name)) name }, ?_, h.with _, rfl, ?_, ?_, ?_⟩
        · rw [runP_cons h.discard, runP_cons ((h.with (dropE p.L (fresh name))).change hgd fun _ => dropE _ name)]
          rfl
        · have := Up.used_drop (L := p.L) (fresh name)
          have := Up.used_drop (L := dropE p.L (fresh name)) name
          show usedE (dropE _ _) ≤ _
          omega
        · show bsE (getE (dropE _ _) _) = _
          rw [getE_drop (hp.up.drop _), if_pos rfl]
          exact (List.eq_nil_of_length_eq_zero h1).symm
        · intro t k1 k2
          show getE (dropE _ _) _ = _
          rw [getE_drop (hp.up.drop _), if_neg k1, getE_drop hp.up, if_neg k2]
    · rw [if_neg h1]
      obtain ⟨q, k1, k2, k3, k4, k5, k6, k7⟩ := h.exchange (name := name) hp hu
      exact ⟨q, k1, k2, k3, k4, by rw [k5]; rfl, k7⟩
end
theorem Hl.new (room : Nat) : Hl (Pd.new room) := ⟨rfl, rfl⟩
section
variable {p q : Pd} {d N M : Nat} {F G : Nat → Prop} {W0 W W' : World}
theorem Left.ok (h : Left p d N F W W') : p.Ok := by obtain ⟨_, h, _⟩ := h; exact h.ok
/-- A call, in the course of a law. -/
theorem Left.on (h : Left p d N G W0 W) {f : FuncId} {args : Array Value} {r : Ending} (hc : ∀ F, On p d N F W → Calls Tryz.prog f args W fun e W' => e = r ∧ Left q d M F W W') :
    Calls Tryz.prog f args W fun e W' => e = r ∧ Left q d M G W0 W' := by
  obtain ⟨F, h1, h2⟩ := h
  refine (hc F h1).mono ?_
  rintro e W' ⟨rfl, F', k1, k2⟩
  exact ⟨rfl, F', k1, h2.trans k2⟩
/-- .. that only makes new memory. -/
theorem Left.fresh (h : Left p d N G W0 W) (hb : Below W.heap.size W W') : Left p d N G W0 W' := by
  obtain ⟨F, h1, h2⟩ := h
  exact ⟨F, h1.below hb, h2.trans (Chg.of_below hb)⟩
theorem Left.from (h : Left p d N G W W') (hb : Below W0.heap.size W0 W) : Left p d N G W0 W' := by
  obtain ⟨F, h1, h2⟩ := h
  exact ⟨F, h1, (Chg.of_below hb).trans h2⟩
theorem Left.below (h : Left p d N (fun _ => False) W0 W) : Below W0.heap.size W0 W := by
  obtain ⟨F, h1, h2⟩ := h
  exact h2.below
theorem Left.any (h : Left p d N G W0 W) (M : Nat) (hM : N ≤ M) : Left p d M G W0 W := h.mono hM
theorem Left.allS (h : Left p d N G W0 W) {name : Nm} (hs : name.length ≤ maxLen) {l : List Nm} {r : Nm} (hF : Fs (bsE (getE p.L name)) l r) :
    Calls Tryz.prog 27 #[.pointer (some ⟨d, 0, none⟩), .string (str name)] W fun e W' => ∃ v, e = .returned v ∧ OwnS W.heap.size l v W' ∧ Below W.heap.size W W' := by
  obtain ⟨F, h1, h2⟩ := h
  exact h1.all hs hF
theorem Left.read (h : Left p d N G W0 W) {name : Nm} (hs : name.length ≤ maxLen) :
    Calls Tryz.prog 50 #[.pointer (some ⟨d, 0, none⟩), .string (str name)] W fun e W' => e = .returned (readV (getE p.L name)) ∧ W' = W := by
  obtain ⟨F, h1, h2⟩ := h
  exact h1.read hs
end
/-- A frame that is cut is none. -/
theorem firstP_cut {t : Nm} (ht : t.length ≤ 65536) {k : Nat} (hk : k < (fr t).length) : firstP ((fr t).take k) = none := by
  cases h : firstP ((fr t).take k) with
  | none => rfl
  | some u =>
    obtain ⟨h1, r, hr⟩ := firstP_some.1 h
    have hl := congrArg List.length hr
    rw [List.length_append, List.length_take, Nat.min_eq_left (Nat.le_of_lt hk), fr_len] at hl
    have he : fr t = fr u ++ (r ++ (fr t).drop k) := by rw [← List.append_assoc, ← hr, List.take_append_drop]
    have e1 := firstP_fr ht []
    have e2 := firstP_fr h1 (r ++ (fr t).drop k)
    rw [List.append_nil, he, e2] at e1
    injection e1 with e1
    subst e1
    rw [fr_len] at hk
    omega
end Go.Proofs.YtceagpnonkmfdaaGreat.Dz
end
section
namespace Go.Proofs.YtceagpnonkmfdaaGreat.Dz
open Go.RowKit

/-- A slice of texts that is handed in. -/
def Txts (W : World) (a : Option Addr) (c : Nat) (l : List Nm) : Prop :=
  l.length ≤ c ∧ (l = [] ∨ ∃ g o, a = some ⟨g, o, none⟩ ∧ g < W.heap.size ∧ ∀ k t, l[k]? = some t → W.cell? ⟨g, o + k, none⟩ = some (.string (str t)))
theorem Txts.later {W W' : World} {a : Option Addr} {c : Nat} {l : List Nm} (h : Txts W a c l) (hb : Below W.heap.size W W') : Txts W' a c l := by
  obtain ⟨h1, h2⟩ := h
  refine ⟨h1, ?_⟩
  rcases h2 with h2 | ⟨g, o, e, hg, hp⟩
  · exact Or.inl h2
  · exact Or.inr ⟨g, o, e, Nat.lt_of_lt_of_le hg hb.size, fun k t hk => (World.cell?_of_block (hb.block g hg)).trans (hp k t hk)⟩
section
open Go.ChangeShapes Go.WideShapes Go.ChangeAt
variable {H : Type} {enc : TypeId × Value → H} {w : World} {base : Nat} {held : Bool} {r : Reach} {b0 : Nat} {v : Value} {d : DataW H} {p : List MemPlace}
theorem laidOut : laidOutB Tryz.prog = true := by kernel_rfl
set_option maxRecDepth 100000 in
theorem open_texts (hv : Value.okWide Tryz.prog w r b0 38 v) (h : DataW.Trod enc Tryz.prog w base (fun _ => true) held 38 v d p) :
    ∃ (pa : Option Addr) (pc : Nat) (l : List Nm), v = .slice pa l.length pc ∧ Txts w pa pc l ∧ (∀ t ∈ l, t.length ≤ maxLen) ∧ l.length ≤ maxLen := by
  obtain ⟨a0, len, cap, rfl⟩ := okWide_slice Tryz.underlying38 hv
  obtain ⟨fuel, hf⟩ := h
  rcases open_strings Tryz.underlying38 Tryz.underlying9 (by kernel_rfl) hf with ⟨hcs, _⟩ | ⟨a, len', cap', ss, hcs, _, hl, hm, hz, _, hcell, hsz⟩
  · simp [Value.cells] at hcs
    obtain ⟨rfl, rfl, rfl⟩ := hcs
    exact ⟨none, 0, [], rfl, ⟨Nat.le_refl _, Or.inl rfl⟩, by simp, by simp⟩
  · simp [Value.cells] at hcs
    obtain ⟨rfl, rfl, rfl⟩ := hcs
    simp only [if_true] at hz
    have hlen : ((ss.take len).map fun s => s.data.toList).length = len := by rw [List.length_map, List.length_take]; omega
    refine ⟨some a, cap, (ss.take len).map fun s => s.data.toList, by rw [hlen], ⟨by omega, ?_⟩, fun t ht => ?_, by omega⟩
    · by_cases h0 : len = 0
      · exact Or.inl (List.eq_nil_of_length_eq_zero (by omega))
      · obtain ⟨g, o, spot⟩ := a
        have hspot : spot = none := by simpa [Addr.add] using World.cell?_spot (hcell 0 (by omega))
        subst hspot
        have hg : g < w.heap.size := by
          have c := hcell 0 (by omega)
          rcases Nat.lt_or_ge g w.heap.size with h' | h'
          · exact h'
          · simp [World.cell?, Addr.add, Array.getElem?_eq_none h'] at c
        refine Or.inr ⟨g, o, rfl, hg, fun k t hk => ?_⟩
        have hkl : k < len := by
          rcases Nat.lt_or_ge k len with h | h
          · exact h
          · rw [List.getElem?_eq_none (by omega)] at hk; cases hk
        have hc := hcell k (by omega)
        rw [Go.WideShapes.add_plain] at hc
        rw [hc]
        rw [List.getElem?_map, List.getElem?_take_of_lt hkl] at hk
        have hks : k < ss.length := by omega
        rw [List.getElem?_eq_getElem hks] at hk
        simp only [Option.map_some, Option.some.injEq] at hk
        rw [← hk, str_of]
        simp [List.getD, List.getElem?_eq_getElem hks]
    · obtain ⟨s, hs, rfl⟩ := List.mem_map.1 ht
      have := hsz s (List.mem_of_mem_take hs)
      have h2 : s.data.toList.length = s.size := by simp
      omega
end
/-- .. and blocks that are none of the disk's, and stay. -/
def Lk (p : Pd) (d N : Nat) (K : Nat → Prop) (W0 W : World) : Prop := ∃ F, On p d N F W ∧ Chg (fun _ => False) F W0 W ∧ ∀ k, K k → ¬ F k ∧ k < W.heap.size
section
variable {p q : Pd} {d N M : Nat} {K J : Nat → Prop} {W0 W W' : World}
theorem Left.lk (h : Left p d N (fun _ => False) W0 W) : Lk p d N (fun _ => False) W0 W := by
  obtain ⟨F, h1, h2⟩ := h
  exact ⟨F, h1, h2, fun _ h => h.elim⟩
theorem Lk.left (h : Lk p d N K W0 W) : Left p d N (fun _ => False) W0 W := by
  obtain ⟨F, h1, h2, _⟩ := h
  exact ⟨F, h1, h2⟩
theorem Lk.on (h : Lk p d N K W0 W) {f : FuncId} {args : Array Value} {r : Ending} (hc : ∀ F, On p d N F W → Calls Tryz.prog f args W fun e W' => e = r ∧ Left q d M F W W') :
    Calls Tryz.prog f args W fun e W' => e = r ∧ Lk q d M K W0 W' ∧ ∀ k, K k → W'.heap[k]? = W.heap[k]? := by
  obtain ⟨F, h1, h2, h3⟩ := h
  refine (hc F h1).mono ?_
  rintro e W' ⟨rfl, F', k1, k2⟩
  exact ⟨rfl, ⟨F', k1, h2.trans k2, fun k hk => ⟨fun hf => (k2.new k hf).elim (h3 k hk).1 (fun h => by have := (h3 k hk).2; omega), Nat.lt_of_lt_of_le (h3 k hk).2 k2.size⟩⟩, fun k hk => k2.block k (h3 k hk).2 (h3 k hk).1⟩
theorem Lk.fresh (h : Lk p d N K W0 W) (hb : Below W.heap.size W W') : Lk p d N K W0 W' := by
  obtain ⟨F, h1, h2, h3⟩ := h
  exact ⟨F, h1.below hb, h2.trans (Chg.of_below hb), fun k hk => ⟨(h3 k hk).1, Nat.lt_of_lt_of_le (h3 k hk).2 hb.size⟩⟩
theorem Lk.more (h : Lk p d N K W0 W) (hb : Below W.heap.size W W') (hJ : ∀ k, J k → W.heap.size ≤ k ∧ k < W'.heap.size) : Lk p d N (fun k => K k ∨ J k) W0 W' := by
  obtain ⟨F, h1, h2, h3⟩ := h
  refine ⟨F, h1.below hb, h2.trans (Chg.of_below hb), fun k hk => ?_⟩
  rcases hk with hk | hk
  · exact ⟨(h3 k hk).1, Nat.lt_of_lt_of_le (h3 k hk).2 hb.size⟩
  · exact ⟨fun hf => by have := h1.lt hf; have := (hJ k hk).1; omega, (hJ k hk).2⟩
end
theorem OwnS.stay {B : Nat} {l : List Nm} {v : Value} {W W' : World} (h : OwnS B l v W) {K : Nat → Prop} (hk : ∀ k, K k → W'.heap[k]? = W.heap[k]?) (hv : ∀ k, v.ownBlock = some k → K k) : OwnS B l v W' := own_keep h fun k h => hk k (hv k h)
/-- Two frames, and more, are not one. -/
theorem whole_two {a b : Nm} {l : List Nm} (ha : a.length ≤ 65536) : wholeP (frs (a :: b :: l)) = none := by
  unfold wholeP
  rw [show frs (a :: b :: l) = fr a ++ (fr b ++ frs l) from rfl, firstP_fr ha]
  simp only
  rw [if_neg (by rw [List.length_append, List.length_append, fr_len, fr_len]; omega)]
theorem whole_one {a : Nm} (ha : a.length ≤ 65536) : wholeP (fr a) = some a := wholeP_some.2 ⟨ha, rfl⟩
theorem zeros_of (N : Nat) (W : World) : (convert 142 9 (.slice (some ⟨W.heap.size, 0, none⟩) N N)).run Tryz.prog (W.alloc (.cells (madeCells #[.int .u8 0] N) 5)) = .ok (.string (str (List.replicate N 0))) (W.alloc (.cells (madeCells #[.int .u8 0] N) 5)) := by
  have h := run_convert_bytes_back (P := Tryz.prog) (W.alloc (.cells (madeCells #[.int .u8 0] N) 5)) 142 9 5 ⟨W.heap.size, 0, none⟩ N (List.replicate N 0) Tryz.underlying142 Tryz.underlying5 Tryz.underlying9 (fun j hj => by
    rw [List.length_replicate] at hj
    have e : (⟨W.heap.size, 0, none⟩ : Addr).add j = ⟨W.heap.size, j, none⟩ := by unfold Addr.add; split <;> simp_all
    rw [e, cell_of (heap_alloc_new W _) j, ← Array.getElem?_toList, toList_madeCells_one, List.getElem?_replicate, if_pos hj, List.getElem_replicate]
    rfl)
  rw [List.length_replicate] at h
  exact h
end Go.Proofs.YtceagpnonkmfdaaGreat.Dz
end
