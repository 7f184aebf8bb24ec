/- Decode. -/
import Derived.Test.YtgaaalacoeainaaLf
import Derived.Recover
namespace Go.Proofs.Ytgaaalacoeainaa
open Go.RowKit

/-- The item of nothing. -/
def zeroV : Value := .agg #[.bool false, .string ⟨#[]⟩, .slice none 0 0]
theorem catch_panicking (a b : Nat) (v0 v1 v2 v3 : Value) (u : TypeId) (pv : Value) (older : List PanicEntry) (w : World) (ha : w.heap[a]? = some (.cells #[v0, v1, v2] 27 (0, 0))) (hb : w.heap[b]? = some (.cells #[v3] 43 (0, 0))) (hab : a ≠ b) :
    CallsD Try.prog 38 #[.pointer (some ⟨a, 0, none⟩), .pointer (some ⟨b, 0, none⟩)] (.panicking ({ v := .iface u pv, recovered := false } :: older)) w fun e u' w' =>
      e = .returned (.tuple #[]) ∧ u' = .panicking ({ v := .iface u pv, recovered := true } :: older) ∧
        w' = (((w.setCell ⟨a, 0, none⟩ (.bool false)).setCell ⟨a, 1, none⟩ (.string ⟨#[]⟩)).setCell ⟨a, 2, none⟩ (.slice none 0 0)).setCell ⟨b, 0, none⟩ (.int .i64 2) := by
  obtain ⟨⟨c0, c1, c2⟩, z0, z1, z2⟩ := cells3 ha
  have c3 := cell_of hb 0
  have z3 := free_of hb 0
  refine callsD_of_wpS Try.func38 rfl fun c₀ cs hu => ?_
  apply wpS_seq
  apply wpS_region
  simp [wpOpsS, go_sem, recoverD, hu, Try.ntmps38, Exit.thenS]
  refine wpS_cond (t := true) (by simp [Act.eval, Array.replicate]) ?_
  simp only [if_true]
  have c3' : w.cell? ⟨b, 0, none⟩ = some v3 := c3
  have hab' : ¬ b = a := fun e => hab e.symm
  apply wpS_region
  simp [wpOpsS, go_sem, c0, c1, c2, z0, z1, z2, c3', z3, bodyPostS, results, Try.results38]
theorem catch_idle (p q : Value) (w : World) :
    CallsD Try.prog 38 #[p, q] .returning w fun e u' w' => e = .returned (.tuple #[]) ∧ u' = .returning ∧ w' = w := by
  refine callsD_of_wpS Try.func38 rfl fun c₀ cs hu => ?_
  apply wpS_seq
  apply wpS_region
  simp [wpOpsS, go_sem, recoverD, hu, Try.ntmps38, Exit.thenS]
  refine wpS_cond (t := false) (by simp [Act.eval, Array.replicate]) ?_
  simp only [Bool.false_eq_true, if_false]
  refine wpS_of_wp (wp_skip ?_)
  cases c₀
  simp_all [bodyPostS, results, Try.results38]
theorem dec_results (tmps : Array Value) (w : World) (a b : Nat) (x y z v : Value) (hp : tmps.getD 2 undef = .pointer (some ⟨a, 0, none⟩)) (hq : tmps.getD 3 undef = .pointer (some ⟨b, 0, none⟩)) (ha : w.heap[a]? = some (.cells #[x, y, z] 27 (0, 0))) (hb : w.heap[b]? = some (.cells #[v] 43 (0, 0))) :
    (results Try.f21 tmps).run Try.prog w = .ok (.tuple #[.agg #[x, y, z], v]) w := by
  obtain ⟨⟨c0, c1, c2⟩, _⟩ := cells3 ha
  have c3 : w.cell? ⟨b, 0, none⟩ = some v := cell_of hb 0
  have hp' : tmps[2]?.getD undef = .pointer (some ⟨a, 0, none⟩) := by simpa using hp
  have hq' : tmps[3]?.getD undef = .pointer (some ⟨b, 0, none⟩) := by simpa using hq
  simp [results, Try.results21, hp', hq', go_sem, c0, c1, c2, c3]
/-- What Decode hands back. -/
def DecR (s : List UInt8) (w : World) (e : Ending) (w' : World) : Prop :=
  Below w.heap.size w w' ∧ if 65536 < s.length then e = .returned (.tuple #[zeroV, .int .i64 3]) else match decP s with
    | some f => ∃ (x : It) (v : Value), f = x.fo .nil ∧ e = .returned (.tuple #[v, .int .i64 0]) ∧ ItV (fun k => w.heap.size ≤ k ∧ k < w'.heap.size) x v w'
    | none => e = .returned (.tuple #[zeroV, .int .i64 2])
theorem hmf (fn : Fn) (first cap : Array Value) (w : World) : (Instr.makeFunc fn first cap).run Try.prog w = .ok (.func fn first cap) w := rfl
set_option maxRecDepth 100000 in
theorem decode_long (s : List UInt8) (hs : 65536 < s.length) (w : World) : Calls Try.prog 21 #[.string (str s)] w (DecR s w) := by
  have hi : (65536 : Int) < ((str s).size : Int) := by rw [str_size]; omega
  have HD := Lib.hid (show ∀ e w', DecR s w e w' = (Below w.heap.size w w' ∧ e = .returned (.tuple #[zeroV, .int .i64 3])) from fun e w' => by unfold DecR; rw [if_pos hs])
  generalize str s = x at *
  have hm := hmf
  go_enter_defers Try.func21, Try.ntmps21
  go_wp2_with fail
  refine ⟨_, dec_results _ _ w.heap.size (w.heap.size + 1) _ _ _ _ rfl rfl (heap_alloc2_old w _ _) (heap_alloc2_new w _ _), ?_⟩
  rw [HD.out]
  exact ⟨((Below.refl _ _).alloc (Nat.le_refl _) _).alloc (by simp) _, rfl⟩
theorem alloc3 (w : World) (A B o : Obj) : (((w.alloc A).alloc B).alloc o).heap[w.heap.size + 1 + 1]? = some o := by
  have h := heap_alloc_new ((w.alloc A).alloc B) o
  rwa [alloc_size, alloc_size] at h
theorem dec_keep {w w5 : World} {A B o : Obj} (ho : Only (fun k => k = w.heap.size + 1 + 1) (((w.alloc A).alloc B).alloc o).heap.size (((w.alloc A).alloc B).alloc o) w5) :
    w5.heap[w.heap.size]? = some A ∧ w5.heap[w.heap.size + 1]? = some B ∧ Below w.heap.size w w5 := by
  have hk : ∀ k, k < w.heap.size + 2 → w5.heap[k]? = ((w.alloc A).alloc B).heap[k]? := fun k hk => (ho.block k (by simp; omega) (by omega)).trans (Below.heap_alloc _ _ _ (by simp; omega))
  refine ⟨(hk _ (by omega)).trans (heap_alloc2_old w A B), (hk _ (by omega)).trans (heap_alloc2_new w A B), ?_⟩
  have h1 := Only.below ho (B' := w.heap.size) (by simp; omega) (fun k hk => by omega)
  exact ((((Below.refl w.heap.size w).alloc (Nat.le_refl _) A).alloc (by simp) B).alloc (by simp; omega) o).trans h1
theorem dec_end {w w5 : World} {a b : Nat} {v0 v1 v2 v : Value} {t t' : TypeId} (h0 : w5.heap[a]? = some (.cells #[v0, v1, v2] t (0, 0))) (h1 : w5.heap[b]? = some (.cells #[v] t' (0, 0))) (hab : a ≠ b) (ha : w.heap.size ≤ a) (hb : w.heap.size ≤ b) (h : Below w.heap.size w w5) (x0 x1 x2 y : Value) :
    ((((w5.setCell ⟨a, 0, none⟩ x0).setCell ⟨a, 1, none⟩ x1).setCell ⟨a, 2, none⟩ x2).setCell ⟨b, 0, none⟩ y).heap[a]? = some (.cells #[x0, x1, x2] t (0, 0)) ∧
    ((((w5.setCell ⟨a, 0, none⟩ x0).setCell ⟨a, 1, none⟩ x1).setCell ⟨a, 2, none⟩ x2).setCell ⟨b, 0, none⟩ y).heap[b]? = some (.cells #[y] t' (0, 0)) ∧
    Below w.heap.size w ((((w5.setCell ⟨a, 0, none⟩ x0).setCell ⟨a, 1, none⟩ x1).setCell ⟨a, 2, none⟩ x2).setCell ⟨b, 0, none⟩ y) := by
  refine ⟨?_, ?_, (below_set3 h ha _ _ _).setCell (p := ⟨b, 0, none⟩) hb _⟩
  · rw [heap_setCell_other _ _ _ _ (by simpa using hab)]
    exact heap_set3 h0 _ _ _
  · have e := heap_setCell_same (((w5.setCell ⟨a, 0, none⟩ x0).setCell ⟨a, 1, none⟩ x1).setCell ⟨a, 2, none⟩ x2) b 0 #[v] t' y (by
      rw [heap_setCell_other _ _ _ _ (by simpa using Ne.symm hab), heap_setCell_other _ _ _ _ (by simpa using Ne.symm hab), heap_setCell_other _ _ _ _ (by simpa using Ne.symm hab)]
      exact h1)
    simpa using e
set_option maxRecDepth 100000 in
set_option maxHeartbeats 1000000 in
theorem decode_none (s : List UInt8) (hs : s.length ≤ 65536) (hn : itemP 65 s = none) (w : World) : Calls Try.prog 21 #[.string (str s)] w (DecR s w) := by
  have hi : ¬ (65536 : Int) < ((str s).size : Int) := by rw [str_size]; omega
  have HD := Lib.hid (show ∀ e w', DecR s w e w' = (Below w.heap.size w w' ∧ e = .returned (.tuple #[zeroV, .int .i64 2])) from fun e w' => by unfold DecR decP; rw [if_neg (by omega), hn])
  have HI := Lib.hid (fun (g : Nat) (W : World) (h : Rd g s W) => (show Calls Try.prog 39 #[.pointer (some ⟨g, 0, none⟩), .int .i64 0] W (ItR g W (itemP 65 s)) from item_any 65 g s 0 W (by omega) (by omega) h))
  rw [hn] at HI
  have HR := Lib.hid (fun (A B : Obj) => (show Rd (w.heap.size + 1 + 1) s (((w.alloc A).alloc B).alloc (.cells #[.string (str s)] 76)) from alloc3 w A B _))
  generalize str s = x at *
  have hm := hmf
  go_enter_defers Try.func21, Try.ntmps21
  go_wp2_with (go_at_call 39; refine (HI.out _ _ (HR.out _ _)).mono ?_; rintro e w5 ⟨ho, rfl⟩; have HO := Lib.hid ho; clear ho)
  obtain ⟨h0, h1, hb⟩ := dec_keep HO.out
  refine leaves_cons (f := 38) (args := #[.pointer (some ⟨w.heap.size, 0, none⟩), .pointer (some ⟨w.heap.size + 1, 0, none⟩)]) (by simp) (by simp [go_sem]) ?_
  refine (catch_panicking w.heap.size (w.heap.size + 1) _ _ _ _ 43 (.int .i64 2) [] _ h0 h1 (by omega)).mono ?_
  rintro e u' w'' ⟨rfl, rfl, rfl⟩
  obtain ⟨g0, g1, gb⟩ := dec_end (x0 := .bool false) (x1 := .string ⟨#[]⟩) (x2 := .slice none 0 0) (y := .int .i64 2) h0 h1 (by omega) (Nat.le_refl _) (by omega) hb
  refine ⟨_, dec_results _ _ w.heap.size (w.heap.size + 1) _ _ _ _ rfl rfl g0 g1, ?_⟩
  rw [HD.out]
  exact ⟨gb, rfl⟩
set_option maxRecDepth 100000 in
set_option maxHeartbeats 1000000 in
theorem decode_more (s : List UInt8) (hs : s.length ≤ 65536) (f : Fo) (b : UInt8) (r : List UInt8) (hn : itemP 65 s = some (f, b :: r)) (w : World) : Calls Try.prog 21 #[.string (str s)] w (DecR s w) := by
  have hi : ¬ (65536 : Int) < ((str s).size : Int) := by rw [str_size]; omega
  have HD := Lib.hid (show ∀ e w', DecR s w e w' = (Below w.heap.size w w' ∧ e = .returned (.tuple #[zeroV, .int .i64 2])) from fun e w' => by unfold DecR decP; rw [if_neg (by omega), hn])
  have HI := Lib.hid (fun (g : Nat) (W : World) (h : Rd g s W) => (show Calls Try.prog 39 #[.pointer (some ⟨g, 0, none⟩), .int .i64 0] W (ItR g W (itemP 65 s)) from item_any 65 g s 0 W (by omega) (by omega) h))
  rw [hn] at HI
  have HR := Lib.hid (fun (A B : Obj) => (show Rd (w.heap.size + 1 + 1) s (((w.alloc A).alloc B).alloc (.cells #[.string (str s)] 76)) from alloc3 w A B _))
  generalize str s = x at *
  have hm := hmf
  have hne : (str (b :: r)).toList.isEmpty = false := by rw [ByteArray.toList_eq]; rfl
  go_enter_defers Try.func21, Try.ntmps21
  go_wp2_with (first
    | (go_at_call 39; refine (HI.out _ _ (HR.out _ _)).mono ?_; rintro e w5 ⟨ho, ⟨it, v, rfl, rfl, hv⟩, hr⟩; obtain ⟨b2, t2, va, vn, vc, rfl⟩ := hv.form; obtain ⟨h0, h1, hb⟩ := dec_keep ho; have c9 : w5.cell? ⟨w.heap.size + 1 + 1, 0, none⟩ = some (.string (str (b :: r))) := cell_of hr 0; obtain ⟨⟨c0, c1, c2⟩, z0, z1, z2⟩ := cells3 h0; have HK := Lib.hid (And.intro h0 (And.intro h1 hb)); clear h0 h1 hb ho hr hv; generalize str (b :: r) = y at *)
    | (go_at_call 40; refine (must_no _).mono ?_; rintro e w1 ⟨rfl, rfl⟩))
  obtain ⟨h0, h1, hb⟩ := HK.out
  have h0' := heap_set3 h0 (.bool b2) (.string t2) (.slice va vn vc)
  have h1' : (((w5.setCell ⟨w.heap.size, 0, none⟩ (.bool b2)).setCell ⟨w.heap.size, 1, none⟩ (.string t2)).setCell ⟨w.heap.size, 2, none⟩ (.slice va vn vc)).heap[w.heap.size + 1]? = some (.cells #[.int .i64 0] 43 (0, 0)) := by
    rw [heap_setCell_other _ _ _ _ (by simp), heap_setCell_other _ _ _ _ (by simp), heap_setCell_other _ _ _ _ (by simp)]
    exact h1
  have hb' := below_set3 hb (Nat.le_refl _) (.bool b2) (.string t2) (.slice va vn vc)
  refine leaves_cons (f := 38) (args := #[.pointer (some ⟨w.heap.size, 0, none⟩), .pointer (some ⟨w.heap.size + 1, 0, none⟩)]) (by simp) (by simp [go_sem]) ?_
  refine (catch_panicking w.heap.size (w.heap.size + 1) _ _ _ _ 43 (.int .i64 2) [] _ h0' h1' (by omega)).mono ?_
  rintro e u' w'' ⟨rfl, rfl, rfl⟩
  obtain ⟨g0, g1, gb⟩ := dec_end (x0 := .bool false) (x1 := .string ⟨#[]⟩) (x2 := .slice none 0 0) (y := .int .i64 2) h0' h1' (by omega) (Nat.le_refl _) (by omega) hb'
  refine ⟨_, dec_results _ _ w.heap.size (w.heap.size + 1) _ _ _ _ rfl rfl g0 g1, ?_⟩
  rw [HD.out]
  exact ⟨gb, rfl⟩
set_option maxRecDepth 100000 in
set_option maxHeartbeats 1000000 in
theorem decode_some (s : List UInt8) (hs : s.length ≤ 65536) (f : Fo) (hn : itemP 65 s = some (f, [])) (w : World) : Calls Try.prog 21 #[.string (str s)] w (DecR s w) := by
  have hi : ¬ (65536 : Int) < ((str s).size : Int) := by rw [str_size]; omega
  have HD := Lib.hid (show ∀ e w', DecR s w e w' = (Below w.heap.size w w' ∧ ∃ (x : It) (v : Value), f = x.fo .nil ∧ e = .returned (.tuple #[v, .int .i64 0]) ∧ ItV (fun k => w.heap.size ≤ k ∧ k < w'.heap.size) x v w') from fun e w' => by unfold DecR decP; rw [if_neg (by omega), hn])
  have HI := Lib.hid (fun (g : Nat) (W : World) (h : Rd g s W) => (show Calls Try.prog 39 #[.pointer (some ⟨g, 0, none⟩), .int .i64 0] W (ItR g W (itemP 65 s)) from item_any 65 g s 0 W (by omega) (by omega) h))
  rw [hn] at HI
  have HR := Lib.hid (fun (A B : Obj) => (show Rd (w.heap.size + 1 + 1) s (((w.alloc A).alloc B).alloc (.cells #[.string (str s)] 76)) from alloc3 w A B _))
  generalize str s = x at *
  have hm := hmf
  go_enter_defers Try.func21, Try.ntmps21
  go_wp2_with (first
    | (go_at_call 39; refine (HI.out _ _ (HR.out _ _)).mono ?_; rintro e w5 ⟨ho, ⟨it, v, rfl, rfl, hv⟩, hr⟩; obtain ⟨b2, t2, va, vn, vc, rfl⟩ := hv.form; obtain ⟨h0, h1, hb⟩ := dec_keep ho; have c9 : w5.cell? ⟨w.heap.size + 1 + 1, 0, none⟩ = some (.string ⟨#[]⟩) := cell_of hr 0; obtain ⟨⟨c0, c1, c2⟩, z0, z1, z2⟩ := cells3 h0; have c3 : w5.cell? ⟨w.heap.size + 1, 0, none⟩ = some (.int .i64 0) := cell_of h1 0; have z3 := free_of h1 0; have HK := Lib.hid (And.intro h0 (And.intro h1 (And.intro hb hv))); clear h0 h1 hb ho hr hv)
    | (go_at_call 40; refine (must_ok _).mono ?_; rintro e w1 ⟨rfl, rfl⟩))
  obtain ⟨h0, h1, hb, hv⟩ := HK.out
  have h0' := heap_set3 h0 (.bool b2) (.string t2) (.slice va vn vc)
  have h1' : (((w5.setCell ⟨w.heap.size, 0, none⟩ (.bool b2)).setCell ⟨w.heap.size, 1, none⟩ (.string t2)).setCell ⟨w.heap.size, 2, none⟩ (.slice va vn vc)).heap[w.heap.size + 1]? = some (.cells #[.int .i64 0] 43 (0, 0)) := by
    rw [heap_setCell_other _ _ _ _ (by simp), heap_setCell_other _ _ _ _ (by simp), heap_setCell_other _ _ _ _ (by simp)]
    exact h1
  have hb' := below_set3 hb (Nat.le_refl _) (.bool b2) (.string t2) (.slice va vn vc)
  obtain ⟨g0, g1, gb⟩ := dec_end (x0 := .bool b2) (x1 := .string t2) (x2 := .slice va vn vc) (y := .int .i64 0) h0' h1' (by omega) (Nat.le_refl _) (by omega) hb'
  refine leaves_cons (f := 38) (args := #[.pointer (some ⟨w.heap.size, 0, none⟩), .pointer (some ⟨w.heap.size + 1, 0, none⟩)]) (by simp) (by simp [go_sem]) ?_
  refine (catch_idle _ _ _).mono ?_
  rintro e u' w'' ⟨rfl, rfl, rfl⟩
  refine ⟨_, dec_results _ _ w.heap.size (w.heap.size + 1) _ _ _ _ rfl rfl g0 g1, ?_⟩
  rw [HD.out]
  refine ⟨gb, it, _, rfl, rfl, (hv.kept (fun k hk => ?_)).mono (fun k hk => ?_)⟩
  · have h1 := hk.1
    simp at h1
    rw [heap_setCell_other _ _ _ _ (by simp; omega), heap_setCell_other _ _ _ _ (by simp; omega), heap_setCell_other _ _ _ _ (by simp; omega), heap_setCell_other _ _ _ _ (by simp; omega), heap_setCell_other _ _ _ _ (by simp; omega), heap_setCell_other _ _ _ _ (by simp; omega), heap_setCell_other _ _ _ _ (by simp; omega)]
  · have h1 := hk.1
    have h2 := hk.2
    simp at h1
    refine ⟨by omega, ?_⟩
    simpa [World.setCell] using h2
theorem decode_c (s : List UInt8) (w : World) : Calls Try.prog 21 #[.string (str s)] w (DecR s w) := by
  by_cases hs : 65536 < s.length
  · exact decode_long s hs w
  · cases hn : itemP 65 s with
    | none => exact decode_none s (by omega) hn w
    | some q =>
      obtain ⟨f, r⟩ := q
      cases r with
      | nil => exact decode_some s (by omega) f hn w
      | cons b r => exact decode_more s (by omega) f b r hn w
end Go.Proofs.Ytgaaalacoeainaa
