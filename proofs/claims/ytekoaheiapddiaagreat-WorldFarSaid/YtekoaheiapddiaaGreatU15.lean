/- Merged: Lg, Lw, Ly, Lt1, Lt2, Lt3, Lt4, Lt5, Lt6, Va. -/
import Derived.Test.YtekoaheiapddiaaGreatU14
import Derived.Recover
import Derived.Test.YtekoaheiapddiaaGreatU11
import Derived.Test.YtekoaheiapddiaaGreatU13
import Derived.Test.YtekoaheiapddiaaGreatU10
import Derived.StillTailTactics
import Derived.Test.YtekoaheiapddiaaGreatU08
import Derived.Test.YtekoaheiapddiaaGreatU05
section
namespace Go.Proofs.YtekoaheiapddiaaGreat
open Go.RowKit

/-- The item of nothing. -/
def zeroV : Value := .agg #[.bool false, .string ⟨#[]⟩, .slice none 0 0]
theorem catch_panicking (a b : Nat) (v0 v1 v2 v3 : Value) (u : TypeId) (pv : Value) (older : List PanicEntry) (w : World) (ha : w.heap[a]? = some (.cells #[v0, v1, v2] 198 (0, 0))) (hb : w.heap[b]? = some (.cells #[v3] 27 (0, 0))) (hab : a ≠ b) :
    CallsD Tryz.prog 144 #[.pointer (some ⟨a, 0, none⟩), .pointer (some ⟨b, 0, none⟩)] (.panicking ({ v := .iface u pv, recovered := false } :: older)) w fun e u' w' =>
      e = .returned (.tuple #[]) ∧ u' = .panicking ({ v := .iface u pv, recovered := true } :: older) ∧
        w' = (((w.setCell ⟨a, 0, none⟩ (.bool false)).setCell ⟨a, 1, none⟩ (.string ⟨#[]⟩)).setCell ⟨a, 2, none⟩ (.slice none 0 0)).setCell ⟨b, 0, none⟩ (.int .i64 2) := by
  obtain ⟨⟨c0, c1, c2⟩, z0, z1, z2⟩ := cells3 ha
  have c3 := cell_of hb 0
  have z3 := free_of hb 0
  refine callsD_of_wpS Tryz.func144 rfl fun c₀ cs hu => ?_
  apply wpS_seq
  apply wpS_region
  simp [wpOpsS, go_sem, recoverD, hu, Tryz.ntmps144, Exit.thenS]
  refine wpS_cond (t := true) (by simp [Act.eval, Array.replicate]) ?_
  simp only [if_true]
  have c3' : w.cell? ⟨b, 0, none⟩ = some v3 := c3
  have hab' : ¬ b = a := fun e => hab e.symm
  apply wpS_region
  simp [wpOpsS, go_sem, c0, c1, c2, z0, z1, z2, c3', z3, bodyPostS, results, Tryz.results144]
theorem catch_idle (p q : Value) (w : World) :
    CallsD Tryz.prog 144 #[p, q] .returning w fun e u' w' => e = .returned (.tuple #[]) ∧ u' = .returning ∧ w' = w := by
  refine callsD_of_wpS Tryz.func144 rfl fun c₀ cs hu => ?_
  apply wpS_seq
  apply wpS_region
  simp [wpOpsS, go_sem, recoverD, hu, Tryz.ntmps144, Exit.thenS]
  refine wpS_cond (t := false) (by simp [Act.eval, Array.replicate]) ?_
  simp only [Bool.false_eq_true, if_false]
  refine wpS_of_wp (wp_skip ?_)
  cases c₀
  simp_all [bodyPostS, results, Tryz.results144]
theorem dec_results (tmps : Array Value) (w : World) (a b : Nat) (x y z v : Value) (hp : tmps.getD 2 undef = .pointer (some ⟨a, 0, none⟩)) (hq : tmps.getD 3 undef = .pointer (some ⟨b, 0, none⟩)) (ha : w.heap[a]? = some (.cells #[x, y, z] 198 (0, 0))) (hb : w.heap[b]? = some (.cells #[v] 27 (0, 0))) :
    (results Tryz.f103 tmps).run Tryz.prog w = .ok (.tuple #[.agg #[x, y, z], v]) w := by
  obtain ⟨⟨c0, c1, c2⟩, _⟩ := cells3 ha
  have c3 : w.cell? ⟨b, 0, none⟩ = some v := cell_of hb 0
  have hp' : tmps[2]?.getD undef = .pointer (some ⟨a, 0, none⟩) := by simpa using hp
  have hq' : tmps[3]?.getD undef = .pointer (some ⟨b, 0, none⟩) := by simpa using hq
  simp [results, Tryz.results103, hp', hq', go_sem, c0, c1, c2, c3]
/-- What Decode hands back. -/
def DecR (s : List UInt8) (w : World) (e : Ending) (w' : World) : Prop :=
  Below w.heap.size w w' ∧ if 65536 < s.length then e = .returned (.tuple #[zeroV, .int .i64 3]) else match decP s with
    | some f => ∃ (x : It) (v : Value), f = x.fo .nil ∧ e = .returned (.tuple #[v, .int .i64 0]) ∧ ItV (fun k => w.heap.size ≤ k ∧ k < w'.heap.size) x v w'
    | none => e = .returned (.tuple #[zeroV, .int .i64 2])
theorem hmf (fn : Fn) (first cap : Array Value) (w : World) : (Instr.makeFunc fn first cap).run Tryz.prog w = .ok (.func fn first cap) w := rfl
set_option maxRecDepth 100000 in
theorem decode_long (s : List UInt8) (hs : 65536 < s.length) (w : World) : Calls Tryz.prog 103 #[.string (str s)] w (DecR s w) := by
  have hi : (65536 : Int) < ((str s).size : Int) := by rw [str_size]; omega
  have HD := Lib.hid (show ∀ e w', DecR s w e w' = (Below w.heap.size w w' ∧ e = .returned (.tuple #[zeroV, .int .i64 3])) from fun e w' => by unfold DecR; rw [if_pos hs])
  generalize str s = x at *
  have hm := hmf
  go_enter_defers Tryz.func103, Tryz.ntmps103
  go_wp2_with fail
  refine ⟨_, dec_results _ _ w.heap.size (w.heap.size + 1) _ _ _ _ rfl rfl (heap_alloc2_old w _ _) (heap_alloc2_new w _ _), ?_⟩
  rw [HD.out]
  exact ⟨((Below.refl _ _).alloc (Nat.le_refl _) _).alloc (by simp) _, rfl⟩
theorem alloc3 (w : World) (A B o : Obj) : (((w.alloc A).alloc B).alloc o).heap[w.heap.size + 1 + 1]? = some o := by
  have h := heap_alloc_new ((w.alloc A).alloc B) o
  rwa [alloc_size, alloc_size] at h
theorem dec_keep {w w5 : World} {A B o : Obj} (ho : Only (fun k => k = w.heap.size + 1 + 1) (((w.alloc A).alloc B).alloc o).heap.size (((w.alloc A).alloc B).alloc o) w5) :
    w5.heap[w.heap.size]? = some A ∧ w5.heap[w.heap.size + 1]? = some B ∧ Below w.heap.size w w5 := by
  have hk : ∀ k, k < w.heap.size + 2 → w5.heap[k]? = ((w.alloc A).alloc B).heap[k]? := fun k hk => (ho.block k (by simp; omega) (by omega)).trans (Below.heap_alloc _ _ _ (by simp; omega))
  refine ⟨(hk _ (by omega)).trans (heap_alloc2_old w A B), (hk _ (by omega)).trans (heap_alloc2_new w A B), ?_⟩
  have h1 := Only.below ho (B' := w.heap.size) (by simp; omega) (fun k hk => by omega)
  exact ((((Below.refl w.heap.size w).alloc (Nat.le_refl _) A).alloc (by simp) B).alloc (by simp; omega) o).trans h1
theorem dec_end {w w5 : World} {a b : Nat} {v0 v1 v2 v : Value} {t t' : TypeId} (h0 : w5.heap[a]? = some (.cells #[v0, v1, v2] t (0, 0))) (h1 : w5.heap[b]? = some (.cells #[v] t' (0, 0))) (hab : a ≠ b) (ha : w.heap.size ≤ a) (hb : w.heap.size ≤ b) (h : Below w.heap.size w w5) (x0 x1 x2 y : Value) :
    ((((w5.setCell ⟨a, 0, none⟩ x0).setCell ⟨a, 1, none⟩ x1).setCell ⟨a, 2, none⟩ x2).setCell ⟨b, 0, none⟩ y).heap[a]? = some (.cells #[x0, x1, x2] t (0, 0)) ∧
    ((((w5.setCell ⟨a, 0, none⟩ x0).setCell ⟨a, 1, none⟩ x1).setCell ⟨a, 2, none⟩ x2).setCell ⟨b, 0, none⟩ y).heap[b]? = some (.cells #[y] t' (0, 0)) ∧
    Below w.heap.size w ((((w5.setCell ⟨a, 0, none⟩ x0).setCell ⟨a, 1, none⟩ x1).setCell ⟨a, 2, none⟩ x2).setCell ⟨b, 0, none⟩ y) := by
  refine ⟨?_, ?_, (below_set3 h ha _ _ _).setCell (p := ⟨b, 0, none⟩) hb _⟩
  · rw [heap_setCell_other _ _ _ _ (by simpa using hab)]
    exact heap_set3 h0 _ _ _
  · have e := heap_setCell_same (((w5.setCell ⟨a, 0, none⟩ x0).setCell ⟨a, 1, none⟩ x1).setCell ⟨a, 2, none⟩ x2) b 0 #[v] t' y (by
      rw [heap_setCell_other _ _ _ _ (by simpa using Ne.symm hab), heap_setCell_other _ _ _ _ (by simpa using Ne.symm hab), heap_setCell_other _ _ _ _ (by simpa using Ne.symm hab)]
      exact h1)
    simpa using e
set_option maxRecDepth 100000 in
set_option maxHeartbeats 1000000 in
theorem decode_none (s : List UInt8) (hs : s.length ≤ 65536) (hn : itemP 65 s = none) (w : World) : Calls Tryz.prog 103 #[.string (str s)] w (DecR s w) := by
  have hi : ¬ (65536 : Int) < ((str s).size : Int) := by rw [str_size]; omega
  have HD := Lib.hid (show ∀ e w', DecR s w e w' = (Below w.heap.size w w' ∧ e = .returned (.tuple #[zeroV, .int .i64 2])) from fun e w' => by unfold DecR decP; rw [if_neg (by omega), hn])
  have HI := Lib.hid (fun (g : Nat) (W : World) (h : Rd g s W) => (show Calls Tryz.prog 145 #[.pointer (some ⟨g, 0, none⟩), .int .i64 0] W (ItR g W (itemP 65 s)) from item_any 65 g s 0 W (by omega) (by omega) h))
  rw [hn] at HI
  have HR := Lib.hid (fun (A B : Obj) => (show Rd (w.heap.size + 1 + 1) s (((w.alloc A).alloc B).alloc (.cells #[.string (str s)] 245)) from alloc3 w A B _))
  generalize str s = x at *
  have hm := hmf
  go_enter_defers Tryz.func103, Tryz.ntmps103
  go_wp2_with (go_at_call 145; refine (HI.out _ _ (HR.out _ _)).mono ?_; rintro e w5 ⟨ho, rfl⟩; have HO := Lib.hid ho; clear ho)
  obtain ⟨h0, h1, hb⟩ := dec_keep HO.out
  refine leaves_cons (f := 144) (args := #[.pointer (some ⟨w.heap.size, 0, none⟩), .pointer (some ⟨w.heap.size + 1, 0, none⟩)]) (by simp) (by simp [go_sem]) ?_
  refine (catch_panicking w.heap.size (w.heap.size + 1) _ _ _ _ 27 (.int .i64 2) [] _ h0 h1 (by omega)).mono ?_
  rintro e u' w'' ⟨rfl, rfl, rfl⟩
  obtain ⟨g0, g1, gb⟩ := dec_end (x0 := .bool false) (x1 := .string ⟨#[]⟩) (x2 := .slice none 0 0) (y := .int .i64 2) h0 h1 (by omega) (Nat.le_refl _) (by omega) hb
  refine ⟨_, dec_results _ _ w.heap.size (w.heap.size + 1) _ _ _ _ rfl rfl g0 g1, ?_⟩
  rw [HD.out]
  exact ⟨gb, rfl⟩
set_option maxRecDepth 100000 in
set_option maxHeartbeats 1000000 in
theorem decode_more (s : List UInt8) (hs : s.length ≤ 65536) (f : Fo) (b : UInt8) (r : List UInt8) (hn : itemP 65 s = some (f, b :: r)) (w : World) : Calls Tryz.prog 103 #[.string (str s)] w (DecR s w) := by
  have hi : ¬ (65536 : Int) < ((str s).size : Int) := by rw [str_size]; omega
  have HD := Lib.hid (show ∀ e w', DecR s w e w' = (Below w.heap.size w w' ∧ e = .returned (.tuple #[zeroV, .int .i64 2])) from fun e w' => by unfold DecR decP; rw [if_neg (by omega), hn])
  have HI := Lib.hid (fun (g : Nat) (W : World) (h : Rd g s W) => (show Calls Tryz.prog 145 #[.pointer (some ⟨g, 0, none⟩), .int .i64 0] W (ItR g W (itemP 65 s)) from item_any 65 g s 0 W (by omega) (by omega) h))
  rw [hn] at HI
  have HR := Lib.hid (fun (A B : Obj) => (show Rd (w.heap.size + 1 + 1) s (((w.alloc A).alloc B).alloc (.cells #[.string (str s)] 245)) from alloc3 w A B _))
  generalize str s = x at *
  have hm := hmf
  have hne : (str (b :: r)).toList.isEmpty = false := by rw [ByteArray.toList_eq]; rfl
  go_enter_defers Tryz.func103, Tryz.ntmps103
  go_wp2_with (first
    | (go_at_call 145; refine (HI.out _ _ (HR.out _ _)).mono ?_; rintro e w5 ⟨ho, ⟨it, v, rfl, rfl, hv⟩, hr⟩; obtain ⟨b2, t2, va, vn, vc, rfl⟩ := hv.form; obtain ⟨h0, h1, hb⟩ := dec_keep ho; have c9 : w5.cell? ⟨w.heap.size + 1 + 1, 0, none⟩ = some (.string (str (b :: r))) := cell_of hr 0; obtain ⟨⟨c0, c1, c2⟩, z0, z1, z2⟩ := cells3 h0; have HK := Lib.hid (And.intro h0 (And.intro h1 hb)); clear h0 h1 hb ho hr hv; generalize str (b :: r) = y at *)
    | (go_at_call 146; refine (must_no _).mono ?_; rintro e w1 ⟨rfl, rfl⟩))
  obtain ⟨h0, h1, hb⟩ := HK.out
  have h0' := heap_set3 h0 (.bool b2) (.string t2) (.slice va vn vc)
  have h1' : (((w5.setCell ⟨w.heap.size, 0, none⟩ (.bool b2)).setCell ⟨w.heap.size, 1, none⟩ (.string t2)).setCell ⟨w.heap.size, 2, none⟩ (.slice va vn vc)).heap[w.heap.size + 1]? = some (.cells #[.int .i64 0] 27 (0, 0)) := by
    rw [heap_setCell_other _ _ _ _ (by simp), heap_setCell_other _ _ _ _ (by simp), heap_setCell_other _ _ _ _ (by simp)]
    exact h1
  have hb' := below_set3 hb (Nat.le_refl _) (.bool b2) (.string t2) (.slice va vn vc)
  refine leaves_cons (f := 144) (args := #[.pointer (some ⟨w.heap.size, 0, none⟩), .pointer (some ⟨w.heap.size + 1, 0, none⟩)]) (by simp) (by simp [go_sem]) ?_
  refine (catch_panicking w.heap.size (w.heap.size + 1) _ _ _ _ 27 (.int .i64 2) [] _ h0' h1' (by omega)).mono ?_
  rintro e u' w'' ⟨rfl, rfl, rfl⟩
  obtain ⟨g0, g1, gb⟩ := dec_end (x0 := .bool false) (x1 := .string ⟨#[]⟩) (x2 := .slice none 0 0) (y := .int .i64 2) h0' h1' (by omega) (Nat.le_refl _) (by omega) hb'
  refine ⟨_, dec_results _ _ w.heap.size (w.heap.size + 1) _ _ _ _ rfl rfl g0 g1, ?_⟩
  rw [HD.out]
  exact ⟨gb, rfl⟩
set_option maxRecDepth 100000 in
set_option maxHeartbeats 1000000 in
theorem decode_some (s : List UInt8) (hs : s.length ≤ 65536) (f : Fo) (hn : itemP 65 s = some (f, [])) (w : World) : Calls Tryz.prog 103 #[.string (str s)] w (DecR s w) := by
  have hi : ¬ (65536 : Int) < ((str s).size : Int) := by rw [str_size]; omega
  have HD := Lib.hid (show ∀ e w', DecR s w e w' = (Below w.heap.size w w' ∧ ∃ (x : It) (v : Value), f = x.fo .nil ∧ e = .returned (.tuple #[v, .int .i64 0]) ∧ ItV (fun k => w.heap.size ≤ k ∧ k < w'.heap.size) x v w') from fun e w' => by unfold DecR decP; rw [if_neg (by omega), hn])
  have HI := Lib.hid (fun (g : Nat) (W : World) (h : Rd g s W) => (show Calls Tryz.prog 145 #[.pointer (some ⟨g, 0, none⟩), .int .i64 0] W (ItR g W (itemP 65 s)) from item_any 65 g s 0 W (by omega) (by omega) h))
  rw [hn] at HI
  have HR := Lib.hid (fun (A B : Obj) => (show Rd (w.heap.size + 1 + 1) s (((w.alloc A).alloc B).alloc (.cells #[.string (str s)] 245)) from alloc3 w A B _))
  generalize str s = x at *
  have hm := hmf
  go_enter_defers Tryz.func103, Tryz.ntmps103
  go_wp2_with (first
    | (go_at_call 145; refine (HI.out _ _ (HR.out _ _)).mono ?_; rintro e w5 ⟨ho, ⟨it, v, rfl, rfl, hv⟩, hr⟩; obtain ⟨b2, t2, va, vn, vc, rfl⟩ := hv.form; obtain ⟨h0, h1, hb⟩ := dec_keep ho; have c9 : w5.cell? ⟨w.heap.size + 1 + 1, 0, none⟩ = some (.string ⟨#[]⟩) := cell_of hr 0; obtain ⟨⟨c0, c1, c2⟩, z0, z1, z2⟩ := cells3 h0; have c3 : w5.cell? ⟨w.heap.size + 1, 0, none⟩ = some (.int .i64 0) := cell_of h1 0; have z3 := free_of h1 0; have HK := Lib.hid (And.intro h0 (And.intro h1 (And.intro hb hv))); clear h0 h1 hb ho hr hv)
    | (go_at_call 146; refine (must_ok _).mono ?_; rintro e w1 ⟨rfl, rfl⟩))
  obtain ⟨h0, h1, hb, hv⟩ := HK.out
  have h0' := heap_set3 h0 (.bool b2) (.string t2) (.slice va vn vc)
  have h1' : (((w5.setCell ⟨w.heap.size, 0, none⟩ (.bool b2)).setCell ⟨w.heap.size, 1, none⟩ (.string t2)).setCell ⟨w.heap.size, 2, none⟩ (.slice va vn vc)).heap[w.heap.size + 1]? = some (.cells #[.int .i64 0] 27 (0, 0)) := by
    rw [heap_setCell_other _ _ _ _ (by simp), heap_setCell_other _ _ _ _ (by simp), heap_setCell_other _ _ _ _ (by simp)]
    exact h1
  have hb' := below_set3 hb (Nat.le_refl _) (.bool b2) (.string t2) (.slice va vn vc)
  obtain ⟨g0, g1, gb⟩ := dec_end (x0 := .bool b2) (x1 := .string t2) (x2 := .slice va vn vc) (y := .int .i64 0) h0' h1' (by omega) (Nat.le_refl _) (by omega) hb'
  refine leaves_cons (f := 144) (args := #[.pointer (some ⟨w.heap.size, 0, none⟩), .pointer (some ⟨w.heap.size + 1, 0, none⟩)]) (by simp) (by simp [go_sem]) ?_
  refine (catch_idle _ _ _).mono ?_
  rintro e u' w'' ⟨rfl, rfl, rfl⟩
  refine ⟨_, dec_results _ _ w.heap.size (w.heap.size + 1) _ _ _ _ rfl rfl g0 g1, ?_⟩
  rw [HD.out]
  refine ⟨gb, it, _, rfl, rfl, (hv.kept (fun k hk => ?_)).mono (fun k hk => ?_)⟩
  · have h1 := hk.1
    simp at h1
    rw [heap_setCell_other _ _ _ _ (by simp; omega), heap_setCell_other _ _ _ _ (by simp; omega), heap_setCell_other _ _ _ _ (by simp; omega), heap_setCell_other _ _ _ _ (by simp; omega), heap_setCell_other _ _ _ _ (by simp; omega), heap_setCell_other _ _ _ _ (by simp; omega), heap_setCell_other _ _ _ _ (by simp; omega)]
  · have h1 := hk.1
    have h2 := hk.2
    simp at h1
    refine ⟨by omega, ?_⟩
    simpa [World.setCell] using h2
theorem decode_c (s : List UInt8) (w : World) : Calls Tryz.prog 103 #[.string (str s)] w (DecR s w) := by
  by_cases hs : 65536 < s.length
  · exact decode_long s hs w
  · cases hn : itemP 65 s with
    | none => exact decode_none s (by omega) hn w
    | some q =>
      obtain ⟨f, r⟩ := q
      cases r with
      | nil => exact decode_some s (by omega) f hn w
      | cons b r => exact decode_more s (by omega) f b r hn w
end Go.Proofs.YtekoaheiapddiaaGreat
end
section
namespace Go.Proofs.YtekoaheiapddiaaGreat
open Go.RowKit

theorem bel_then {A B C : World} (h1 : Below A.heap.size A B) (h2 : Below B.heap.size B C) : Below A.heap.size A C := h1.trans (h2.mono h1.size)
theorem bel_al (A : World) (o : Obj) : Below A.heap.size A (A.alloc o) := (Below.refl _ _).alloc (Nat.le_refl _) _
end Go.Proofs.YtekoaheiapddiaaGreat
end
section
namespace Go.Proofs.YtekoaheiapddiaaGreat
open Go.RowKit

theorem tk_spec {n : Nat} {s x r : List UInt8} (h : tk n s = some (x, r)) : s = x ++ r ∧ x.length = n := by
  unfold tk at h
  split at h
  · next hn =>
    injection h with h
    injection h with h1 h2
    subst h1 h2
    exact ⟨(List.take_append_drop n s).symm, by simp; omega⟩
  · cases h
theorem bodyP_spec {k a : Nat} {s x r : List UInt8} (h : bodyP a s = some (x, r)) : UInt8.ofNat (k + a) :: s = hd k x.length ++ x ++ r := by
  unfold bodyP at h
  split at h
  · next ha =>
    obtain ⟨h1, h2⟩ := tk_spec h
    rw [h2, hd, if_pos ha, h1]; rfl
  · next ha =>
    split at h
    · cases h
    · next n r0 h0 =>
      split at h
      · next hc =>
        obtain ⟨h1, h2⟩ := tk_spec h0
        obtain ⟨h3, h4⟩ := tk_spec h
        have hs := hc.1
        simp only [smallL, Bool.and_eq_true, decide_eq_true_eq, bne_iff_ne, ne_eq] at hs
        have hv := num_val n (fun b q e hb => hs.2 (by rw [e, hb]; rfl))
        rw [h4, hd, if_neg (by omega), hv, h2, h1, h3, show k + 55 + (a - 55) = k + a by omega]
        simp
      · cases h
theorem itemsP_enc {p : List UInt8 → Option (Fo × List UInt8)} (hp : ∀ s f r, p s = some (f, r) → s = f.enc ++ r) : ∀ (n : Nat) (s : List UInt8) (f : Fo), itemsP p n s = some f → f.enc = s := by
  intro n
  induction n with
  | zero =>
    intro s f h
    cases s with
    | nil => simp only [itemsP] at h; injection h with h; subst h; rfl
    | cons b s => simp only [itemsP] at h; cases h
  | succ n ih =>
    intro s f h
    cases s with
    | nil => simp only [itemsP] at h; injection h with h; subst h; rfl
    | cons b s =>
      simp only [itemsP] at h
      split at h
      · cases h
      · next g r hg =>
        split at h
        · cases h
        · next g2 hg2 =>
          injection h with h
          subst h
          rw [Fo.enc_app, ih _ _ hg2, ← hp _ _ _ hg]
theorem itemP_enc : ∀ (d : Nat) (s : List UInt8) (f : Fo) (r : List UInt8), itemP d s = some (f, r) → s = f.enc ++ r := by
  intro d
  induction d with
  | zero => intro s f r h; cases h
  | succ d ih =>
    intro s f r h
    change itemS (itemP d) s = _ at h
    cases s with
    | nil => cases h
    | cons b s =>
      simp only [itemS] at h
      split at h
      · next hb =>
        injection h with h
        injection h with h1 h2
        subst h1 h2
        simp [Fo.enc, encT, hdT, bareL, hb]
      · next hb =>
        split at h
        · next hb2 =>
          cases hbd : bodyP (b.toNat - 128) s with
          | none => rw [hbd] at h; simp [textS] at h
          | some q =>
            obtain ⟨x, r'⟩ := q
            rw [hbd] at h
            simp only [textS] at h
            split at h
            · cases h
            · next hx =>
              obtain ⟨h1, h2⟩ := Prod.mk.inj (Option.some.inj h)
              subst h1 h2
              have := bodyP_spec (k := 128) hbd
              rw [show 128 + (b.toNat - 128) = b.toNat by omega, UInt8.ofNat_toNat] at this
              rw [this]
              simp [Fo.enc, encT, hdT, hx]
        · next hb2 =>
          cases hbd : bodyP (b.toNat - 192) s with
          | none => rw [hbd] at h; simp [listS] at h
          | some q =>
            obtain ⟨x, r'⟩ := q
            rw [hbd] at h
            simp only [listS] at h
            split at h
            · cases h
            · next g hg =>
              obtain ⟨h1, h2⟩ := Prod.mk.inj (Option.some.inj h)
              subst h1 h2
              have := bodyP_spec (k := 192) hbd
              rw [show 192 + (b.toNat - 192) = b.toNat by omega, UInt8.ofNat_toNat] at this
              have hg' := itemsP_enc ih _ _ _ hg
              rw [this]
              simp [Fo.enc, hg']
theorem decP_enc {s : List UInt8} {f : Fo} (h : decP s = some f) : f.enc = s := by
  unfold decP at h
  split at h
  · next g hg =>
    injection h with h
    subst h
    have := itemP_enc _ _ _ _ hg
    rw [this]; simp
  · cases h
theorem hd_pos (k n : Nat) : 0 < (hd k n).length := by unfold hd; split <;> simp
theorem encT_pos (s : List UInt8) : 0 < (encT s).length := by
  unfold encT hdT
  cases s with
  | nil => have := hd_pos 128 0; simp [bareL]; exact this
  | cons b s => simp; omega
theorem Fo.evs_len (f : Fo) : f.evs.length ≤ 2 * f.enc.length := by
  induction f with
  | nil => simp [Fo.evs]
  | text s r ih => have := encT_pos s; simp [Fo.evs, Fo.enc]; omega
  | list i r ih1 ih2 => have := hd_pos 192 i.enc.length; simp [Fo.evs, Fo.enc]; omega
theorem It.evs_len (x : It) : x.evs.length ≤ 2 * x.enc.length := by
  cases x with
  | text s => have := encT_pos s; simp [It.evs, It.enc]; omega
  | list i => have := hd_pos 192 i.enc.length; have := i.evs_len; simp [It.evs, It.enc]; omega
theorem It.enc_fo' (x : It) : (x.fo .nil).enc = x.enc := by cases x <;> simp [It.fo, It.enc, Fo.enc]
theorem str_eq (a b : List UInt8) : ((str a).toList == (str b).toList) = (a == b) := by
  rw [ByteArray.toList_eq, ByteArray.toList_eq]; simp [str]
end Go.Proofs.YtekoaheiapddiaaGreat
end
section
namespace Go.Proofs.YtekoaheiapddiaaGreat
open Go.RowKit

theorem tk_app (x r : List UInt8) : tk x.length (x ++ r) = some (x, r) := by
  unfold tk
  rw [if_pos (by simp)]
  simp
theorem bodyP_hd (k : Nat) (hk : k + 63 < 256) (x r : List UInt8) (hx : x.length < M64) : ∃ b q, hd k x.length = b :: q ∧ k ≤ b.toNat ∧ b.toNat < k + 64 ∧ bodyP (b.toNat - k) (q ++ (x ++ r)) = some (x, r) := by
  by_cases h : x.length ≤ 55
  · refine ⟨UInt8.ofNat (k + x.length), [], by rw [hd, if_pos h], ?_⟩
    rw [b8 (by omega)]
    refine ⟨by omega, by omega, ?_⟩
    rw [show k + x.length - k = x.length by omega, bodyP, if_pos h]
    exact tk_app x r
  · have h8 := num_length_le (n := x.length) 8 (by unfold M64 at hx; exact hx)
    have h0 := num_length_pos (n := x.length) (by omega)
    refine ⟨UInt8.ofNat (k + 55 + (num x.length).length), num x.length, by rw [hd, if_neg h], ?_⟩
    rw [b8 (by omega)]
    refine ⟨by omega, by omega, ?_⟩
    rw [show k + 55 + (num x.length).length - k = 55 + (num x.length).length by omega, bodyP, if_neg (by omega), show 55 + (num x.length).length - 55 = (num x.length).length by omega, tk_app]
    have hs : smallL (num x.length) = true := by
      unfold smallL
      rw [Bool.and_eq_true]
      refine ⟨by simpa using h8, ?_⟩
      rw [bne_iff_ne]
      intro e
      cases hn : num x.length with
      | nil => rw [hn] at e; cases e
      | cons b q => rw [hn] at e; exact num_head b q hn (by simpa using e)
    simp only [hs, val_num, true_and]
    rw [if_pos (by omega)]
    exact tk_app x r
def Fo.dep : Fo → Nat
  | .nil => 0
  | .text _ r => max 1 r.dep
  | .list i r => max (i.dep + 1) r.dep
def It.dep : It → Nat
  | .text _ => 1
  | .list i => i.dep + 1
theorem It.dep_pos (x : It) : 1 ≤ x.dep := by cases x <;> simp [It.dep]
theorem itemS_text (p : List UInt8 → Option (Fo × List UInt8)) (s r : List UInt8) (hs : (encT s).length < M64) : itemS p (encT s ++ r) = some (.text s .nil, r) := by
  by_cases hb : bareL s = true
  · obtain ⟨b, rfl, hb1⟩ : ∃ b, s = [b] ∧ b.toNat < 128 := by
      rcases s with _ | ⟨b, _ | ⟨c, r⟩⟩
      · cases hb
      · exact ⟨b, rfl, by simpa [bareL] using hb⟩
      · cases hb
    simp [encT, hdT, hb, itemS, hb1]
  · have hl : s.length < M64 := by unfold encT at hs; rw [List.length_append] at hs; omega
    obtain ⟨b, q, h1, h2, h3, h4⟩ := bodyP_hd 128 (by omega) s r hl
    have e : encT s ++ r = b :: (q ++ (s ++ r)) := by simp [encT, hdT, hb, h1]
    rw [e]
    simp only [itemS]
    rw [if_neg (by omega), if_pos (by omega), h4]
    simp [textS, hb]
theorem itemS_list (p : List UInt8 → Option (Fo × List UInt8)) (i : Fo) (r : List UInt8) (hs : i.enc.length < M64) : itemS p ((It.list i).enc ++ r) = match itemsP p i.enc.length i.enc with | none => none | some f => some (.list f .nil, r) := by
  obtain ⟨b, q, h1, h2, h3, h4⟩ := bodyP_hd 192 (by omega) i.enc r hs
  have e : (It.list i).enc ++ r = b :: (q ++ (i.enc ++ r)) := by simp [It.enc, h1]
  rw [e]
  simp only [itemS]
  rw [if_neg (by omega), if_neg (by omega), h4]
  rfl
theorem enc_cons (x : It) : ∃ b q, x.enc = b :: q := by
  cases x with
  | text s => have := encT_pos s; obtain ⟨b, q, h⟩ := List.exists_cons_of_length_pos this; exact ⟨b, q, h⟩
  | list i => have := hd_pos 192 i.enc.length; obtain ⟨b, q, h⟩ := List.exists_cons_of_length_pos this; exact ⟨b, q ++ i.enc, by simp [It.enc, h]⟩
/-- Items one behind the other, if p takes each of them that is not too deep. -/
theorem itemsP_step {p : List UInt8 → Option (Fo × List UInt8)} {d : Nat} (x : It) (r : Fo) (hp : ∀ r, p (x.enc ++ r) = if x.dep ≤ d then some (x.fo .nil, r) else none) (ih : ∀ n, r.enc.length ≤ n → itemsP p n r.enc = if r.dep ≤ d then some r else none) (n : Nat) (hn : (x.enc ++ r.enc).length ≤ n) :
    itemsP p n (x.enc ++ r.enc) = if max x.dep r.dep ≤ d then some (x.fo r) else none := by
  obtain ⟨b, q, hx⟩ := enc_cons x
  have h1 := hp r.enc
  rw [hx] at h1 hn ⊢
  rcases n with _ | n
  · simp at hn
  · rw [List.cons_append] at h1 ⊢
    simp only [itemsP]
    rw [h1]
    by_cases hd : x.dep ≤ d
    · rw [if_pos hd]
      simp only
      rw [ih n (by simp at hn; omega)]
      by_cases hr : r.dep ≤ d
      · rw [if_pos hr, if_pos (by omega)]
        simp only
        rw [It.fo_app]
      · rw [if_neg hr, if_neg (by omega)]
    · rw [if_neg hd, if_neg (by omega)]
theorem itemsP_fo {d : Nat} (hd : ∀ (x : It) (r : List UInt8), x.enc.length < M64 → itemP d (x.enc ++ r) = if x.dep ≤ d then some (x.fo .nil, r) else none) : ∀ (f : Fo) (n : Nat), f.enc.length < M64 → f.enc.length ≤ n → itemsP (itemP d) n f.enc = if f.dep ≤ d then some f else none := by
  intro f
  induction f with
  | nil => intro n _ _; rw [if_pos (by simp [Fo.dep])]; cases n <;> rfl
  | text s r ih =>
    intro n hm hn
    have e : (Fo.text s r).enc = (It.text s).enc ++ r.enc := rfl
    rw [e] at hm hn ⊢
    rw [List.length_append] at hm
    exact itemsP_step (.text s) r (fun q => hd _ q (by omega)) (fun n hn => ih n (by omega) hn) n hn
  | list i r _ ih =>
    intro n hm hn
    have e : (Fo.list i r).enc = (It.list i).enc ++ r.enc := rfl
    rw [e] at hm hn ⊢
    rw [List.length_append] at hm
    exact itemsP_step (.list i) r (fun q => hd _ q (by omega)) (fun n hn => ih n (by omega) hn) n hn
theorem itemP_it : ∀ (d : Nat) (x : It) (r : List UInt8), x.enc.length < M64 → itemP d (x.enc ++ r) = if x.dep ≤ d then some (x.fo .nil, r) else none := by
  intro d
  induction d with
  | zero => intro x r _; rw [if_neg (by have := x.dep_pos; omega)]; rfl
  | succ d ih =>
    intro x r hx
    change itemS (itemP d) (x.enc ++ r) = _
    cases x with
    | text s => rw [if_pos (by simp [It.dep])]; exact itemS_text _ s r hx
    | list i =>
      have hi : i.enc.length < M64 := by simp only [It.enc, List.length_append] at hx; omega
      rw [itemS_list _ i r hi, itemsP_fo ih i _ hi (Nat.le_refl _)]
      by_cases h : i.dep ≤ d
      · rw [if_pos h, if_pos (by simp only [It.dep]; omega)]; rfl
      · rw [if_neg h, if_neg (by simp only [It.dep]; omega)]
theorem decP_it (x : It) (hx : x.enc.length < M64) : decP x.enc = if x.dep ≤ 65 then some (x.fo .nil) else none := by
  have h := itemP_it 65 x [] hx
  rw [List.append_nil] at h
  unfold decP
  rw [h]
  by_cases hd : x.dep ≤ 65
  · rw [if_pos hd, if_pos hd]
  · rw [if_neg hd, if_neg hd]
end Go.Proofs.YtekoaheiapddiaaGreat
end
section
namespace Go.Proofs.YtekoaheiapddiaaGreat
open Go.RowKit

theorem itemP_one : ∀ (d : Nat) (s : List UInt8) (f : Fo) (r : List UInt8), itemP d s = some (f, r) → ∃ x : It, f = x.fo .nil := by
  intro d s f r h
  cases d with
  | zero => cases h
  | succ d =>
    change itemS (itemP d) s = _ at h
    cases s with
    | nil => cases h
    | cons b s =>
      simp only [itemS] at h
      split at h
      · obtain ⟨h1, _⟩ := Prod.mk.inj (Option.some.inj h)
        exact ⟨.text [b], h1.symm⟩
      · split at h
        · cases hbd : bodyP (b.toNat - 128) s with
          | none => rw [hbd] at h; simp [textS] at h
          | some q =>
            obtain ⟨x, r'⟩ := q
            rw [hbd] at h
            simp only [textS] at h
            split at h
            · cases h
            · obtain ⟨h1, _⟩ := Prod.mk.inj (Option.some.inj h)
              exact ⟨.text x, h1.symm⟩
        · cases hbd : bodyP (b.toNat - 192) s with
          | none => rw [hbd] at h; simp [listS] at h
          | some q =>
            obtain ⟨x, r'⟩ := q
            rw [hbd] at h
            simp only [listS] at h
            split at h
            · cases h
            · next g _ =>
              obtain ⟨h1, _⟩ := Prod.mk.inj (Option.some.inj h)
              exact ⟨.list g, h1.symm⟩
end Go.Proofs.YtekoaheiapddiaaGreat
end
section
namespace Go.Proofs.YtekoaheiapddiaaGreat
open Go.RowKit

theorem fo_enc (x : It) (r : Fo) : (x.fo r).enc = x.enc ++ r.enc := by cases x <;> rfl
end Go.Proofs.YtekoaheiapddiaaGreat
end
section
namespace Go.Proofs.YtekoaheiapddiaaGreat
open Go.RowKit

theorem fo_app (x : It) (r : Fo) : x.fo r = (x.fo .nil).app r := by cases x <;> rfl
end Go.Proofs.YtekoaheiapddiaaGreat
end
section
namespace Go.Proofs.YtekoaheiapddiaaGreat
open Go.RowKit

/-- The 32 bytes of a number, the highest first. -/
def wordL (x : Nat) : List UInt8 := tail256 x 32
theorem bytesOf_str (x : Nat) : bytesOf x = str (wordL x) := by
  have h := bytesOf_list x
  rw [ByteArray.toList_eq] at h
  unfold wordL
  rw [← h, str_list]
theorem wordL_len (x : Nat) : (wordL x).length = 32 := tail256_length x 32
theorem last_bytes (x k : Nat) (hk : k ≤ 32) : lastOf (bytesOf x) k = x % 256 ^ k := by
  induction k with
  | zero => simp [lastOf, Nat.mod_one]
  | succ k ih =>
    simp only [lastOf, ih (by omega), bytesOf_size]
    rw [byteAt_bytes _ _ (by omega), show 31 - (32 - 1 - k) = k by omega, Nat.mod_pow_succ, byteOf, Nat.mul_comm]
theorem last_all {x : Nat} (hx : x < W256) : lastOf (bytesOf x) (bytesOf x).size = x := by
  rw [bytesOf_size, last_bytes x 32 (Nat.le_refl _)]
  exact Nat.mod_eq_of_lt hx
/-- The number of a text's bytes. -/
def ofL (s : List UInt8) : Nat := lastOf (str s) (str s).size
theorem ofL_word {x : Nat} (hx : x < W256) : ofL (wordL x) = x := by
  unfold ofL
  rw [← bytesOf_str]
  exact last_all hx
theorem wordL_inj {x y : Nat} (hx : x < W256) (hy : y < W256) (h : wordL x = wordL y) : x = y := by
  rw [← ofL_word hx, ← ofL_word hy, h]
theorem num_inj {m n : Nat} (h : num m = num n) : m = n := by rw [← val_num m, ← val_num n, h]
/-- A word's parts. -/
def l0 (n : Nat) : Nat := n % M64
def l1 (n : Nat) : Nat := n / M64 % M64
def l2 (n : Nat) : Nat := n / M64 / M64 % M64
def l3 (n : Nat) : Nat := n / M64 / M64 / M64
theorem dig_of {n : Nat} (h : n < W256) : Dig n (l0 n) (l1 n) (l2 n) (l3 n) := Dig.of h
theorem dig_eq {n d0 d1 d2 d3 : Nat} (h : Dig n d0 d1 d2 d3) : d0 = l0 n ∧ d1 = l1 n ∧ d2 = l2 n ∧ d3 = l3 n := h.inj (dig_of h.lt)
theorem lim_zero : l0 0 = 0 ∧ l1 0 = 0 ∧ l2 0 = 0 ∧ l3 0 = 0 := by decide
theorem lim_nil {n : Nat} (h : n < W256) (h0 : l0 n = 0) (h1 : l1 n = 0) (h2 : l2 n = 0) (h3 : l3 n = 0) : n = 0 := by
  have := (dig_of h).eq
  rw [h0, h1, h2, h3] at this
  simpa using this

structure AskP where
  id : Nat
  addr : List UInt8
  slot : Nat
  kind : Int
structure AskP.Wf (a : AskP) : Prop where
  id : a.id < M64
  slot : a.slot < W256
  kind : -9223372036854775808 ≤ a.kind ∧ a.kind ≤ 9223372036854775807
def AskP.Ok (a : AskP) : Prop := a.addr.length = 20 ∧ (a.kind = 2 ∨ a.kind = 1 ∧ a.slot = 0)
instance (a : AskP) : Decidable a.Ok := inferInstanceAs (Decidable (_ ∧ _))
def AskP.fo (a : AskP) : Fo := .text (num a.id) (.text (num a.kind.toNat) (.text a.addr (if a.kind = 2 then .text (wordL a.slot) .nil else .nil)))
def AskP.it (a : AskP) : It := .list a.fo
def AskP.enc (a : AskP) : List UInt8 := a.it.enc
def AskP.zero : AskP := ⟨0, [], 0, 0⟩
def askV (a : AskP) : Value := .agg #[.int .u64 a.id, .string (str a.addr), .int .u64 (l3 a.slot : Nat), .int .u64 (l2 a.slot : Nat), .int .u64 (l1 a.slot : Nat), .int .u64 (l0 a.slot : Nat), .int .i64 a.kind]
structure ReplyP where
  id : Nat
  nonce : Nat
  bal : Nat
  code : List UInt8
  value : Nat
structure ReplyP.Wf (r : ReplyP) : Prop where
  id : r.id < M64
  nonce : r.nonce < M64
  bal : r.bal < W256
  value : r.value < W256
def ReplyP.Ok (kind : Int) (r : ReplyP) : Prop := r.code.length ≤ 24576 ∧ (kind = 1 ∧ r.value = 0 ∨ kind = 2 ∧ r.nonce = 0 ∧ r.bal = 0 ∧ r.code = [])
instance (kind : Int) (r : ReplyP) : Decidable (r.Ok kind) := inferInstanceAs (Decidable (_ ∧ _))
def ReplyP.fo (kind : Int) (r : ReplyP) : Fo := .text (num r.id) (if kind = 1 then .text (num r.nonce) (.text (wordL r.bal) (.text r.code .nil)) else .text (wordL r.value) .nil)
def ReplyP.it (kind : Int) (r : ReplyP) : It := .list (r.fo kind)
def ReplyP.body (kind : Int) (r : ReplyP) : List UInt8 := (r.it kind).enc
/-- Four bytes of a sum, the highest first. -/
def be4 (n : Nat) : List UInt8 := [UInt8.ofNat (n / 16777216), UInt8.ofNat (n / 65536), UInt8.ofNat (n / 256), UInt8.ofNat n]
def sum4 (s : List UInt8) : List UInt8 := be4 (sumN (str s))
def ReplyP.enc (kind : Int) (r : ReplyP) : List UInt8 := sum4 (r.body kind) ++ r.body kind
def ReplyP.zero : ReplyP := ⟨0, 0, 0, [], 0⟩
def replyV (r : ReplyP) : Value := .agg #[.int .u64 r.id, .int .u64 r.nonce, .int .u64 (l3 r.bal : Nat), .int .u64 (l2 r.bal : Nat), .int .u64 (l1 r.bal : Nat), .int .u64 (l0 r.bal : Nat), .string (str r.code), .int .u64 (l3 r.value : Nat), .int .u64 (l2 r.value : Nat), .int .u64 (l1 r.value : Nat), .int .u64 (l0 r.value : Nat)]

theorem num8 {n : Nat} (h : n < M64) : (num n).length ≤ 8 := num_length_le 8 (by unfold M64 at h; exact h)
theorem num_head0 (n : Nat) : (num n).head? ≠ some 0 := by
  cases h : num n with
  | nil => simp
  | cons b r => have := num_head b r h; simpa using this
theorem hd_le (k n : Nat) (hn : n < 65536) : (hd k n).length ≤ 3 := by
  have := hd_len k n
  have := num_length_le (n := n) 2 (by omega)
  omega
theorem encT_le3 (s : List UInt8) (hn : s.length < 65536) : (encT s).length ≤ s.length + 3 := by
  rw [encT_len]
  have : (hdT s).length ≤ 3 := by
    unfold hdT
    split
    · simp
    · exact hd_le _ _ hn
  omega
theorem AskP.fo_len {a : AskP} (h : a.Wf) (ho : a.Ok) : a.fo.enc.length ≤ 100 := by
  have h1 := encT_le3 (num a.id) (by have := num8 h.id; omega)
  have h2 := encT_le3 (num a.kind.toNat) (by have := num_length_le (n := a.kind.toNat) 8 (by have := ho.2; omega); omega)
  have h3 := encT_le3 a.addr (by have := ho.1; omega)
  have h4 := encT_le3 (wordL a.slot) (by rw [wordL_len]; omega)
  have h5 := num8 h.id
  have h6 := num_length_le (n := a.kind.toNat) 1 (by have := ho.2; omega)
  have h7 := ho.1
  have h8 := wordL_len a.slot
  unfold AskP.fo
  split <;> simp only [Fo.enc, List.length_append, List.length_nil] <;> omega
theorem It.list_len (f : Fo) (hf : f.enc.length < 65000) : (It.list f).enc.length ≤ f.enc.length + 3 := by
  have := hd_le 192 f.enc.length (by omega)
  simp only [It.enc, List.length_append]
  omega
theorem AskP.enc_len {a : AskP} (h : a.Wf) (ho : a.Ok) : a.enc.length ≤ 103 := by
  have h1 := AskP.fo_len h ho
  have h2 := It.list_len a.fo (by omega)
  unfold AskP.enc AskP.it
  omega
theorem AskP.dep (a : AskP) : a.it.dep ≤ 65 := by
  unfold AskP.it AskP.fo
  split <;> simp [It.dep, Fo.dep]
theorem ReplyP.fo_len {kind : Int} {r : ReplyP} (h : r.Wf) (ho : r.Ok kind) : (r.fo kind).enc.length ≤ 24700 := by
  have h1 := encT_le3 (num r.id) (by have := num8 h.id; omega)
  have h2 := encT_le3 (num r.nonce) (by have := num8 h.nonce; omega)
  have h3 := encT_le3 (wordL r.bal) (by rw [wordL_len]; omega)
  have h4 := encT_le3 r.code (by have := ho.1; omega)
  have h5 := encT_le3 (wordL r.value) (by rw [wordL_len]; omega)
  have h6 := num8 h.id
  have h7 := num8 h.nonce
  have h8 := wordL_len r.bal
  have h9 := wordL_len r.value
  have ha := ho.1
  unfold ReplyP.fo
  split <;> simp only [Fo.enc, List.length_append, List.length_nil] <;> omega
theorem ReplyP.body_len {kind : Int} {r : ReplyP} (h : r.Wf) (ho : r.Ok kind) : (r.body kind).length ≤ 24703 := by
  have h1 := ReplyP.fo_len h ho
  have h2 := It.list_len (r.fo kind) (by omega)
  unfold ReplyP.body ReplyP.it
  omega
theorem ReplyP.dep (kind : Int) (r : ReplyP) : (r.it kind).dep ≤ 65 := by
  unfold ReplyP.it ReplyP.fo
  split <;> simp [It.dep, Fo.dep]
theorem dec_it (x : It) (hl : x.enc.length < 60000) (hd : x.dep ≤ 65) : decP x.enc = some (x.fo .nil) := by
  rw [decP_it x (by unfold M64; omega), if_pos hd]
theorem enc_inj {x y : It} (hx : x.enc.length < 60000) (dx : x.dep ≤ 65) (dy : y.dep ≤ 65) (h : x.enc = y.enc) : x = y := by
  have h1 := dec_it x hx dx
  have h2 := dec_it y (h ▸ hx) dy
  rw [h, h2] at h1
  cases x <;> cases y <;> simp [It.fo] at h1 <;> simp [h1]
theorem AskP.fo_inj {a b : AskP} (ha : a.Wf) (hb : b.Wf) (oa : a.Ok) (ob : b.Ok) (h : a.fo = b.fo) : a = b := by
  obtain ⟨i, d, s, k⟩ := a
  obtain ⟨i', d', s', k'⟩ := b
  simp only [AskP.fo, Fo.text.injEq] at h
  obtain ⟨h1, h2, h3, h4⟩ := h
  have e1 := num_inj h1
  have e2 := num_inj h2
  have k1 := oa.2
  have k2 := ob.2
  simp only at k1 k2 e1 h3
  have e3 : k = k' := by omega
  subst e1 h3 e3
  rcases k1 with rfl | ⟨rfl, rfl⟩
  · rw [if_pos rfl, if_pos rfl] at h4
    simp only [Fo.text.injEq, and_true] at h4
    have e4 : s = s' := wordL_inj ha.slot hb.slot h4
    rw [e4]
  · obtain rfl : s' = 0 := by omega
    rfl
theorem AskP.inj {a b : AskP} (ha : a.Wf) (hb : b.Wf) (oa : a.Ok) (ob : b.Ok) (h : a.enc = b.enc) : a = b := by
  have h1 := enc_inj (x := a.it) (y := b.it) (by have := AskP.enc_len ha oa; unfold AskP.enc at this; omega) a.dep b.dep h
  refine AskP.fo_inj ha hb oa ob ?_
  simpa [AskP.it] using h1
theorem ReplyP.fo_inj {kind : Int} {a b : ReplyP} (ha : a.Wf) (hb : b.Wf) (oa : a.Ok kind) (ob : b.Ok kind) (h : a.fo kind = b.fo kind) : a = b := by
  obtain ⟨i, n, x, c, v⟩ := a
  obtain ⟨i', n', x', c', v'⟩ := b
  have k1 := oa.2
  have k2 := ob.2
  simp only at k1 k2
  rcases k1 with ⟨rfl, rfl⟩ | ⟨rfl, rfl, rfl, rfl⟩
  · obtain rfl : v' = 0 := by omega
    simp only [ReplyP.fo, if_true, Fo.text.injEq, and_true] at h
    obtain ⟨h1, h2, h3, h4⟩ := h
    have e3 : x = x' := wordL_inj ha.bal hb.bal h3
    rw [num_inj h1, num_inj h2, e3, h4]
  · obtain ⟨rfl, rfl, rfl⟩ : n' = 0 ∧ x' = 0 ∧ c' = [] := by
      rcases k2 with ⟨k, _⟩ | ⟨_, k⟩
      · omega
      · exact k
    simp only [ReplyP.fo] at h
    rw [if_neg (by decide), if_neg (by decide)] at h
    simp only [Fo.text.injEq, and_true] at h
    have e3 : v = v' := wordL_inj ha.value hb.value h.2
    rw [num_inj h.1, e3]
theorem sum4_len (s : List UInt8) : (sum4 s).length = 4 := rfl
theorem ReplyP.body_of {kind : Int} {r : ReplyP} : (r.enc kind).drop 4 = r.body kind := by
  unfold ReplyP.enc
  rw [← sum4_len (r.body kind), List.drop_left]
theorem ReplyP.inj {kind : Int} {a b : ReplyP} (ha : a.Wf) (hb : b.Wf) (oa : a.Ok kind) (ob : b.Ok kind) (h : a.enc kind = b.enc kind) : a = b := by
  have h0 : a.body kind = b.body kind := by rw [← ReplyP.body_of, ← ReplyP.body_of, h]
  have h1 := enc_inj (x := a.it kind) (y := b.it kind) (by have := ReplyP.body_len ha oa; unfold ReplyP.body at this; omega) (a.dep kind) (b.dep kind) h0
  refine ReplyP.fo_inj ha hb oa ob ?_
  simpa [ReplyP.it] using h1
/-- What a text is: the ask that has these bytes, or none. -/
def AskIs (s : List UInt8) : Option AskP → Prop
  | some a => a.Wf ∧ a.Ok ∧ a.enc = s
  | none => ∀ a : AskP, a.Wf → a.Ok → a.enc ≠ s
theorem AskIs.one {s : List UInt8} {o o' : Option AskP} (h : AskIs s o) (h' : AskIs s o') : o = o' := by
  cases o with
  | none => cases o' with
    | none => rfl
    | some b => exact absurd h'.2.2 (h b h'.1 h'.2.1)
  | some a => cases o' with
    | none => exact absurd h.2.2 (h' a h.1 h.2.1)
    | some b => rw [AskP.inj h.1 h'.1 h.2.1 h'.2.1 (h.2.2.trans h'.2.2.symm)]
def ReplyIs (kind : Int) (s : List UInt8) : Option ReplyP → Prop
  | some r => r.Wf ∧ r.Ok kind ∧ r.enc kind = s
  | none => ∀ r : ReplyP, r.Wf → r.Ok kind → r.enc kind ≠ s
theorem ReplyIs.one {kind : Int} {s : List UInt8} {o o' : Option ReplyP} (h : ReplyIs kind s o) (h' : ReplyIs kind s o') : o = o' := by
  cases o with
  | none => cases o' with
    | none => rfl
    | some b => exact absurd h'.2.2 (h b h'.1 h'.2.1)
  | some a => cases o' with
    | none => exact absurd h.2.2 (h' a h.1 h.2.1)
    | some b => rw [ReplyP.inj h.1 h'.1 h.2.1 h'.2.1 (h.2.2.trans h'.2.2.symm)]
end Go.Proofs.YtekoaheiapddiaaGreat
end
