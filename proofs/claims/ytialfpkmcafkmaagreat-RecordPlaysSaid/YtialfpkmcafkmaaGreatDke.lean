/- remove, and the step. -/
import Derived.Test.YtialfpkmcafkmaaGreatDkd
namespace Go.Proofs.YtialfpkmcafkmaaGreat
open Go.RowKit Go.Maps Go.WideElems Go.ChangeMaps Go.MapKept Go.WideMaps

section
variable {x : Dk} {W : World}
set_option maxRecDepth 100000 in
theorem remove_c (h : DiskAt x W) {s : List UInt8} {f : Fl} (hf : x.fs s = some f) (hs : s.length ≤ maxLen) (hb : f.bs.length ≤ 1000000000) (hu : -1000000000000 ≤ x.used ∧ x.used ≤ 1000000000000) :
    Calls Tryz.prog 66 #[.pointer (some ⟨x.d, 0, none⟩), .string (str s)] W fun e W' => e = .returned (.tuple #[]) ∧ DiskAt { x with fs := updF x.fs s none, used := x.used - f.bs.length } W' ∧
      Chg x.ft (Dk.ft { x with fs := updF x.fs s none, used := x.used - f.bs.length }) W W' := by
  obtain ⟨⟨_, c1, c2, _⟩, z2⟩ := h.drew.reads
  have z2 := z2 2
  have hl := h.drew.look hs
  rw [hf] at hl
  simp only [ptrF] at hl
  obtain ⟨h1, h2⟩ := h.file s f hf
  have d0 : W.drew.cell? ⟨f.b, 0, none⟩ = some f.v := cell_of (w := W.drew) h1 0
  obtain ⟨va, vc, hv⟩ := own_any h2
  rw [hv] at d0
  have hS := h.drew.set 2 (.int .i64 (x.used - f.bs.length)) { x with used := x.used - f.bs.length } rfl rfl rfl rfl rfl
  obtain ⟨⟨_, e1, _⟩, _⟩ := hS.1.reads
  simp only at e1
  obtain ⟨D, ho, hat, hhas⟩ := hS.1.own
  have hkey := key_str hs
  have H := Lib.hid (And.intro hf (And.intro ho (And.intro hat (And.intro hhas hS))))
  clear h hf h1 h2 hs hv hS ho hat hhas
  generalize str s = y at *
  generalize hW : W.drew.setCell ⟨x.d, 2, none⟩ (.int .i64 (x.used - f.bs.length)) = W1 at *
  go_enter Tryz.func66, Tryz.ntmps66
  go_wp2_with fail
  go_still_tail 17, (by kernel_rfl)
  change wpList _ _ _ _ _ W.drew
  have hwr : IntKind.i64.wrap (x.used - (f.bs.length : Nat)) = x.used - (f.bs.length : Nat) := by
    exact IntWalk.i64_in _ ⟨by omega, by omega⟩
  rw [hwr]
  go_wp2_with (at_delete; refine wpList_delete_own _ rfl _ _ 66 9 rfl 79 law Tryz.underlying66 ptrElem x.m x.n D rfl (hW ▸ H.out.2.1) _ _ rfl hkey ?_; intro W2 ho2 ht2)
  go_end0
  have hg := H.out.2.2.2.2.1.gone (s := s) H.out.1 H.out.2.2.1 H.out.2.2.2.1 ho2 ht2.grown
  exact ⟨rfl, hg.1, H.out.2.2.2.2.2.undrew.trans hg.2⟩
set_option maxRecDepth 100000 in
theorem step_dead (h : DiskAt x W) (hd : x.dead = true) (vw vt : Value) : Calls Tryz.prog 50 #[.pointer (some ⟨x.d, 0, none⟩), vw, vt] W fun e W' => e = .returned (.int .i64 19) ∧ W' = W := by
  obtain ⟨⟨_, _, _, _, _, c5⟩, _⟩ := h.reads
  rw [hd] at c5
  clear h hd
  go_enter Tryz.func50, Tryz.ntmps50
  go_wp2_with fail
  go_ret
  exact ⟨rfl, rfl⟩
set_option maxRecDepth 100000 in
theorem step_crash (h : DiskAt x W) (hd : x.dead = false) (ha : x.after = 0) (vw : Value) (nt : FuncId) (caps : Array Value) (hf : ∀ w, (callFunc nt caps).run Tryz.prog w = .ok (.enter nt caps) w) (Q : World → Prop)
    (hT : ∀ W1, DiskAt { x with dead := true } W1 → Chg x.ft x.ft W W1 → Calls Tryz.prog nt caps W1 fun e W' => e = .returned (.tuple #[]) ∧ Q W') :
    Calls Tryz.prog 50 #[.pointer (some ⟨x.d, 0, none⟩), vw, .func (.func nt) #[] caps] W fun e W' => e = .returned (.int .i64 19) ∧ Q W' := by
  obtain ⟨⟨_, _, _, c3, _, c5⟩, _⟩ := h.reads
  rw [hd] at c5
  rw [ha] at c3
  have HC := Lib.hid (crash_c h)
  have HT := Lib.hid hT
  clear h hd ha hT
  go_enter Tryz.func50, Tryz.ntmps50
  go_wp2_with fail
  refine HC.out.mono ?_
  rintro e W1 ⟨rfl, h1, h2⟩
  have HT1 := Lib.hid (HT.out W1 h1 h2)
  clear h1 h2
  go_wp2_with fail
  refine HT1.out.mono ?_
  rintro e W2 ⟨rfl, hq⟩
  have HQ := Lib.hid hq
  clear hq
  go_wp2_with fail
  go_ret
  exact ⟨rfl, HQ.out⟩
set_option maxRecDepth 100000 in
theorem step_whole (h : DiskAt x W) (hd : x.dead = false) (ha : x.after ≠ 0) (hr : -9223372036854775808 ≤ x.after ∧ x.after ≤ 9223372036854775807) (vt : Value) (nt : FuncId) (caps : Array Value) (hf : ∀ w, (callFunc nt caps).run Tryz.prog w = .ok (.enter nt caps) w) (Q : Int → World → Prop)
    (hT : ∀ W1, DiskAt { x with after := if 0 < x.after then x.after - 1 else x.after } W1 → Chg x.ft x.ft W W1 → Calls Tryz.prog nt caps W1 fun e W' => ∃ r, e = .returned (.int .i64 r) ∧ Q r W') :
    Calls Tryz.prog 50 #[.pointer (some ⟨x.d, 0, none⟩), .func (.func nt) #[] caps, vt] W fun e W' => ∃ r, e = .returned (.int .i64 r) ∧ Q r W' := by
  obtain ⟨⟨_, _, _, c3, _, c5⟩, z3⟩ := h.reads
  have z3 := z3 3
  rw [hd] at c5
  by_cases hp : 0 < x.after
  · rw [if_pos hp] at hT
    have HS := Lib.hid (h.set 3 (.int .i64 (x.after - 1)) { x with after := x.after - 1 } rfl rfl rfl rfl rfl)
    have HT := Lib.hid hT
    clear h hd hT
    generalize x.after = k at *
    go_enter Tryz.func50, Tryz.ntmps50
    go_wp2_with fail
    refine (HT.out _ HS.out.1 HS.out.2).mono ?_
    rintro e W2 ⟨r, rfl, hq⟩
    have HQ := Lib.hid hq
    clear hq
    go_wp2_with fail
    go_ret
    exact ⟨_, rfl, HQ.out⟩
  · rw [if_neg hp] at hT
    have HT := Lib.hid (hT W h (Chg.refl _ _))
    have hn : x.after < 0 := by omega
    clear h hd hT ha
    generalize x.after = k at *
    go_enter Tryz.func50, Tryz.ntmps50
    go_wp2_with fail
    refine HT.out.mono ?_
    rintro e W2 ⟨r, rfl, hq⟩
    have HQ := Lib.hid hq
    clear hq
    go_wp2_with fail
    go_ret
    exact ⟨_, rfl, HQ.out⟩
end
end Go.Proofs.YtialfpkmcafkmaaGreat
