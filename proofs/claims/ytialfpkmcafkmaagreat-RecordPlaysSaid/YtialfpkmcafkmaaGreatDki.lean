/- change: a step that does something to a file. -/
import Derived.Test.YtialfpkmcafkmaaGreatDkh
namespace Go.Proofs.YtialfpkmcafkmaaGreat
open Go.RowKit Go.Maps Go.WideElems Go.ChangeMaps Go.MapKept Go.WideMaps
section
variable {x : Dk} {W : World} {s : Nm} {b0 b1 b2 : Nat} {dv : Value}
/-- What the closure of change has captured. -/
structure Capc (x : Dk) (s : Nm) (dv : Value) (b0 b1 b2 : Nat) (W : World) : Prop where
  c0 : W.heap[b0]? = some (.cells #[.pointer (some ⟨x.d, 0, none⟩)] 25 (0, 0))
  c1 : W.heap[b1]? = some (.cells #[.string (str s)] 9 (0, 0))
  c2 : W.heap[b2]? = some (.cells #[dv] 97 (0, 0))
  far : ¬ x.ft b0 ∧ ¬ x.ft b1 ∧ ¬ x.ft b2
theorem Capc.chg {y : Dk} {W' : World} {F F' : Nat → Prop} (h : Capc x s dv b0 b1 b2 W) (hc : Chg F F' W W') (h1 : ∀ k, F k → x.ft k) (hd : y.d = x.d) (hf : ∀ k, y.ft k → x.ft k) : Capc y s dv b0 b1 b2 W' := by
  obtain ⟨c0, c1, c2, f0, f1, f2⟩ := h
  refine ⟨?_, (hc.block _ (lt_of c1) (fun h => f1 (h1 _ h))).trans c1, (hc.block _ (lt_of c2) (fun h => f2 (h1 _ h))).trans c2, fun h => f0 (hf _ h), fun h => f1 (hf _ h), fun h => f2 (hf _ h)⟩
  rw [hd]; exact (hc.block _ (lt_of c0) (fun h => f0 (h1 _ h))).trans c0
theorem enter_change (a b c : Value) (w : World) : (callFunc 82 #[a, b, c]).run Tryz.prog w = .ok (.enter 82 #[a, b, c]) w := by kernel_rfl
set_option maxRecDepth 100000 in
theorem change_any (h : DiskAt x W) (s : Nm) (nd : FuncId) (dc : Array Value) (Q : Int → World → Prop)
    (hstep : ∀ W1 b0 b1 b2, DiskAt x W1 → Below W.heap.size W W1 → Capc x s (.func (.func nd) #[] dc) b0 b1 b2 W1 →
      Calls Tryz.prog 50 #[.pointer (some ⟨x.d, 0, none⟩), .func (.func 82) #[] #[.pointer (some ⟨b0, 0, none⟩), .pointer (some ⟨b1, 0, none⟩), .pointer (some ⟨b2, 0, none⟩)],
        .func (.func 83) #[] #[]] W1 fun e W' => ∃ r, e = .returned (.int .i64 r) ∧ Q r W') :
    Calls Tryz.prog 65 #[.pointer (some ⟨x.d, 0, none⟩), .string (str s), .func (.func nd) #[] dc] W fun e W' => ∃ r, e = .returned (.int .i64 r) ∧ Q r W' := by
  have HST := Lib.hid hstep
  have H := Lib.hid h
  clear h hstep
  generalize hy : str s = y at *
  have HY := Lib.hid hy
  clear hy
  go_enter Tryz.func65, Tryz.ntmps65
  go_wp2_with fail
  obtain ⟨W3, hW3⟩ : ∃ V, V = (((W.alloc (.cells #[.pointer (some ⟨x.d, 0, none⟩)] 25)).alloc (.cells #[.string y] 9)).alloc (.cells #[.func (.func nd) #[] dc] 97)) := ⟨_, rfl⟩
  rw [← hW3]
  have HC : DiskAt x W3 ∧ Below W.heap.size W W3 ∧ Capc x s (.func (.func nd) #[] dc) W.heap.size (W.heap.size + 1) (W.heap.size + 1 + 1) W3 := by
    rw [hW3]
    have hfar : ∀ k, W.heap.size ≤ k → ¬ x.ft k := fun k hk hf => by have := H.out.lt hf; omega
    refine ⟨((H.out.alloc _).alloc _).alloc _, (((Below.refl _ _).alloc (Nat.le_refl _) _).alloc (by simp) _).alloc (by simp; omega) _, ⟨?_, ?_, ?_, hfar _ (by omega), hfar _ (by omega), hfar _ (by omega)⟩⟩
    · rw [Below.heap_alloc _ _ _ (by rw [alloc_size, alloc_size]; omega), Below.heap_alloc _ _ _ (by rw [alloc_size]; omega)]; exact heap_alloc_new _ _
    · rw [HY.out]
      have h := heap_alloc_new (W.alloc (.cells #[.pointer (some ⟨x.d, 0, none⟩)] 25)) (.cells #[.string y] 9)
      rw [alloc_size] at h; rw [Below.heap_alloc _ _ _ (by rw [alloc_size, alloc_size]; omega)]; exact h
    · have h := heap_alloc_new ((W.alloc (.cells #[.pointer (some ⟨x.d, 0, none⟩)] 25)).alloc (.cells #[.string y] 9)) (.cells #[.func (.func nd) #[] dc] 97)
      rw [alloc_size, alloc_size] at h; exact h
  have HG := Lib.hid (HST.out W3 _ _ _ HC.1 HC.2.1 HC.2.2)
  clear hW3 HC HST
  refine HG.out.mono ?_
  rintro e W5 ⟨r, rfl, hq⟩
  have HQ := Lib.hid hq
  clear hq
  go_wp2_with fail
  go_ret
  exact ⟨_, rfl, HQ.out⟩
theorem chg1_reads (hc : Capc x s dv b0 b1 b2 W) (h : DiskAt x W) (hs : s.length ≤ maxLen) (V : World) (hV : Below W.heap.size W V) : V.cell? ⟨b0, 0, none⟩ = some (.pointer (some ⟨x.d, 0, none⟩)) ∧ V.cell? ⟨b1, 0, none⟩ = some (.string (str s)) ∧ V.cell? ⟨b2, 0, none⟩ = some dv ∧
    V.cell? ⟨x.d, 1, none⟩ = some (.map (some x.m)) ∧ (Instr.lookup 66 (.map (some x.m)) (.string (str s)) false).run Tryz.prog V = .ok (ptrF (x.fs s)) V :=
  ⟨cell_of ((hV.block _ (lt_of hc.c0)).trans hc.c0) 0, cell_of ((hV.block _ (lt_of hc.c1)).trans hc.c1) 0, cell_of ((hV.block _ (lt_of hc.c2)).trans hc.c2) 0, (h.below hV).reads.1.2.1, (h.below hV).look hs⟩
set_option maxRecDepth 100000 in
theorem chg1_none (hc : Capc x s dv b0 b1 b2 W) (h : DiskAt x W) (hf : x.fs s = none) (hs : s.length ≤ maxLen) :
    Calls Tryz.prog 82 #[.pointer (some ⟨b0, 0, none⟩), .pointer (some ⟨b1, 0, none⟩), .pointer (some ⟨b2, 0, none⟩)] W fun e W' => e = .returned (.int .i64 6) ∧ Below W.heap.size W W' := by
  have HS := Lib.hid (chg1_reads hc h hs)
  rw [hf] at HS
  simp only [ptrF] at HS
  clear hc h hf hs
  generalize str s = y at *
  go_enter Tryz.func82, Tryz.ntmps82
  go_wp2_with fail
  have H0 : Below W.heap.size W W.drew := (Below.refl _ _).drew
  refine Drawn.start (fun V => Below W.heap.size W V) (fun _ => false) (by kernel_rfl) ?_
  refine Drawn.take 0 (some 4) (v := ?_) rfl rfl (by kernel_rfl) (by kernel_rfl) (by kernel_rfl) (by kernel_rfl) (by kernel_rfl) rfl (fun _ _ _ h => h) (Or.inl ⟨rfl, ?_⟩) H0 ?_
  rotate_left
  · intro W hW; have hW := HS.out W hW; go_simp; try with_reducible rfl
  simp only [put_list, List.set]
  refine Drawn.take 1 (some 5) (v := ?_) rfl rfl (by kernel_rfl) (by kernel_rfl) (by kernel_rfl) (by kernel_rfl) (by kernel_rfl) rfl (fun _ _ _ h => h) (Or.inl ⟨rfl, ?_⟩) H0 ?_
  rotate_left
  · intro W hW; have hW := HS.out W hW; go_simp; try with_reducible rfl
  simp only [put_list, List.set]
  refine Drawn.take 2 (some 6) (v := ?_) rfl rfl (by kernel_rfl) (by kernel_rfl) (by kernel_rfl) (by kernel_rfl) (by kernel_rfl) rfl (fun _ _ _ h => h) (Or.inl ⟨rfl, ?_⟩) H0 ?_
  rotate_left
  · intro W hW; have hW := HS.out W hW; go_simp; try with_reducible rfl
  simp only [put_list, List.set]
  refine Drawn.take 3 (some 7) (v := ?_) rfl rfl (by kernel_rfl) (by kernel_rfl) (by kernel_rfl) (by kernel_rfl) (by kernel_rfl) rfl (fun _ _ _ h => h) (Or.inl ⟨rfl, ?_⟩) H0 ?_
  rotate_left
  · intro W hW; have hW := HS.out W hW; go_simp; try with_reducible rfl
  simp only [put_list, List.set]
  refine Drawn.take 4 (some 8) (v := ?_) rfl rfl (by kernel_rfl) (by kernel_rfl) (by kernel_rfl) (by kernel_rfl) (by kernel_rfl) rfl (fun _ _ _ h => h) (Or.inl ⟨rfl, ?_⟩) H0 ?_
  rotate_left
  · intro W hW; have hW := HS.out W hW; go_simp; try with_reducible rfl
  simp only [put_list, List.set]
  refine Drawn.take 5 (some 9) (v := ?_) rfl rfl (by kernel_rfl) (by kernel_rfl) (by kernel_rfl) (by kernel_rfl) (by kernel_rfl) rfl (fun _ _ _ h => h) (Or.inl ⟨rfl, ?_⟩) H0 ?_
  rotate_left
  · intro W hW; have hW := HS.out W hW; go_simp; try with_reducible rfl
  simp only [put_list, List.set]
  refine Drawn.take 6 (some 10) (v := ?_) rfl rfl (by kernel_rfl) (by kernel_rfl) (by kernel_rfl) (by kernel_rfl) (by kernel_rfl) rfl (fun _ _ _ h => h) (Or.inl ⟨rfl, ?_⟩) H0 ?_
  rotate_left
  · intro W hW; have hW := HS.out W hW; go_simp; try with_reducible rfl
  simp only [put_list, List.set]
  refine Drawn.done (by kernel_rfl) ?_ _
  clear HS
  go_wp2_with fail
  go_ret
  exact ⟨rfl, H0⟩
set_option maxRecDepth 100000 in
theorem chg1_some {nd : FuncId} {dc : Array Value} (hc : Capc x s (.func (.func nd) #[] dc) b0 b1 b2 W) (h : DiskAt x W) {f : Fl} (hf : x.fs s = some f) (hs : s.length ≤ maxLen)
    (hen : ∀ w, (callFunc nd (#[.pointer (some ⟨x.d, 0, none⟩), .string (str s)] ++ dc)).run Tryz.prog w = .ok (.enter nd (#[.pointer (some ⟨x.d, 0, none⟩), .string (str s)] ++ dc)) w) (Q : World → Prop)
    (hdo : Calls Tryz.prog nd (#[.pointer (some ⟨x.d, 0, none⟩), .string (str s)] ++ dc) W.drew fun e W' => e = .returned (.tuple #[]) ∧ Q W') :
    Calls Tryz.prog 82 #[.pointer (some ⟨b0, 0, none⟩), .pointer (some ⟨b1, 0, none⟩), .pointer (some ⟨b2, 0, none⟩)] W fun e W' => e = .returned (.int .i64 0) ∧ Q W' := by
  have HS := Lib.hid (chg1_reads hc h hs)
  rw [hf] at HS
  simp only [ptrF] at HS
  have HD := Lib.hid hdo
  clear hc h hf hs hdo
  generalize str s = y at *
  go_enter Tryz.func82, Tryz.ntmps82
  go_wp2_with fail
  have H0 : Below W.heap.size W W.drew := (Below.refl _ _).drew
  refine Drawn.start (fun V => Below W.heap.size W V) (fun _ => false) (by kernel_rfl) ?_
  refine Drawn.take 0 (some 4) (v := ?_) rfl rfl (by kernel_rfl) (by kernel_rfl) (by kernel_rfl) (by kernel_rfl) (by kernel_rfl) rfl (fun _ _ _ h => h) (Or.inl ⟨rfl, ?_⟩) H0 ?_
  rotate_left
  · intro W hW; have hW := HS.out W hW; go_simp; try with_reducible rfl
  simp only [put_list, List.set]
  refine Drawn.take 1 (some 5) (v := ?_) rfl rfl (by kernel_rfl) (by kernel_rfl) (by kernel_rfl) (by kernel_rfl) (by kernel_rfl) rfl (fun _ _ _ h => h) (Or.inl ⟨rfl, ?_⟩) H0 ?_
  rotate_left
  · intro W hW; have hW := HS.out W hW; go_simp; try with_reducible rfl
  simp only [put_list, List.set]
  refine Drawn.take 2 (some 6) (v := ?_) rfl rfl (by kernel_rfl) (by kernel_rfl) (by kernel_rfl) (by kernel_rfl) (by kernel_rfl) rfl (fun _ _ _ h => h) (Or.inl ⟨rfl, ?_⟩) H0 ?_
  rotate_left
  · intro W hW; have hW := HS.out W hW; go_simp; try with_reducible rfl
  simp only [put_list, List.set]
  refine Drawn.take 3 (some 7) (v := ?_) rfl rfl (by kernel_rfl) (by kernel_rfl) (by kernel_rfl) (by kernel_rfl) (by kernel_rfl) rfl (fun _ _ _ h => h) (Or.inl ⟨rfl, ?_⟩) H0 ?_
  rotate_left
  · intro W hW; have hW := HS.out W hW; go_simp; try with_reducible rfl
  simp only [put_list, List.set]
  refine Drawn.take 4 (some 8) (v := ?_) rfl rfl (by kernel_rfl) (by kernel_rfl) (by kernel_rfl) (by kernel_rfl) (by kernel_rfl) rfl (fun _ _ _ h => h) (Or.inl ⟨rfl, ?_⟩) H0 ?_
  rotate_left
  · intro W hW; have hW := HS.out W hW; go_simp; try with_reducible rfl
  simp only [put_list, List.set]
  refine Drawn.take 5 (some 9) (v := ?_) rfl rfl (by kernel_rfl) (by kernel_rfl) (by kernel_rfl) (by kernel_rfl) (by kernel_rfl) rfl (fun _ _ _ h => h) (Or.inl ⟨rfl, ?_⟩) H0 ?_
  rotate_left
  · intro W hW; have hW := HS.out W hW; go_simp; try with_reducible rfl
  simp only [put_list, List.set]
  refine Drawn.take 6 (some 10) (v := ?_) rfl rfl (by kernel_rfl) (by kernel_rfl) (by kernel_rfl) (by kernel_rfl) (by kernel_rfl) rfl (fun _ _ _ h => h) (Or.inl ⟨rfl, ?_⟩) H0 ?_
  rotate_left
  · intro W hW; have hW := HS.out W hW; go_simp; try with_reducible rfl
  simp only [put_list, List.set]
  refine Drawn.done (by kernel_rfl) ?_ _
  obtain ⟨k0, k1, k2, _⟩ := HS.out W.drew H0
  clear HS
  go_wp2_with fail
  refine HD.out.mono ?_
  rintro e W2 ⟨rfl, hq⟩
  have HQ := Lib.hid hq
  clear hq HD
  go_wp2_with fail
  go_ret
  exact ⟨rfl, HQ.out⟩
theorem change_none (h : DiskAt x W) (hd : x.dead = false) (ha : x.after ≠ 0) (hx : Fine x) (hf : x.fs s = none) (hs : s.length ≤ maxLen) (nd : FuncId) (dc : Array Value) :
    Calls Tryz.prog 65 #[.pointer (some ⟨x.d, 0, none⟩), .string (str s), .func (.func nd) #[] dc] W fun e W' => e = .returned (.int .i64 6) ∧ DiskAt x.tick W' ∧ Chg x.ft x.ft W W' := by
  refine (change_any h s nd dc (fun r W' => r = 6 ∧ DiskAt x.tick W' ∧ Chg x.ft x.ft W W') fun W1 b0 b1 b2 h1 hb1 hc => ?_).mono ?_
  · refine step_whole h1 hd ha hx.after _ _ _ (enter_change _ _ _) _ fun W2 h2 hc2 => ?_
    refine (chg1_none (hc.chg (y := x.tick) hc2 (fun _ h => h) rfl (fun _ h => h)) h2 hf hs).mono ?_
    rintro e W3 ⟨rfl, hb⟩
    exact ⟨_, rfl, rfl, DiskAt.below (x := x.tick) h2 hb, ((Chg.of_below hb1).trans hc2).trans (Chg.of_below hb)⟩
  · rintro e W2 ⟨r, rfl, rfl, hq⟩
    exact ⟨rfl, hq⟩
theorem change_some (h : DiskAt x W) (hd : x.dead = false) (ha : x.after ≠ 0) (hx : Fine x) {f : Fl} (hf : x.fs s = some f) (hs : s.length ≤ maxLen) (nd : FuncId) (dc : Array Value)
    (hen : ∀ w, (callFunc nd (#[.pointer (some ⟨x.d, 0, none⟩), .string (str s)] ++ dc)).run Tryz.prog w = .ok (.enter nd (#[.pointer (some ⟨x.d, 0, none⟩), .string (str s)] ++ dc)) w) (Q : World → Prop)
    (hdo : ∀ W1, DiskAt x.tick W1 → Chg x.ft x.ft W W1 → Calls Tryz.prog nd (#[.pointer (some ⟨x.d, 0, none⟩), .string (str s)] ++ dc) W1 fun e W' => e = .returned (.tuple #[]) ∧ Q W') :
    Calls Tryz.prog 65 #[.pointer (some ⟨x.d, 0, none⟩), .string (str s), .func (.func nd) #[] dc] W fun e W' => e = .returned (.int .i64 0) ∧ Q W' := by
  refine (change_any h s nd dc (fun r W' => r = 0 ∧ Q W') fun W1 b0 b1 b2 h1 hb1 hc => ?_).mono ?_
  · refine step_whole h1 hd ha hx.after _ _ _ (enter_change _ _ _) _ fun W2 h2 hc2 => ?_
    have hcd : Chg x.ft x.ft W W2.drew := ((Chg.of_below hb1).trans hc2).trans (Chg.of_below (Below.refl _ _).drew)
    refine (chg1_some (hc.chg (y := x.tick) hc2 (fun _ h => h) rfl (fun _ h => h)) h2 hf hs hen Q (hdo _ (DiskAt.drew (x := x.tick) h2) hcd)).mono ?_
    rintro e W3 ⟨rfl, hq⟩
    exact ⟨_, rfl, rfl, hq⟩
  · rintro e W2 ⟨r, rfl, rfl, hq⟩
    exact ⟨rfl, hq⟩
theorem enter_secure (a b : Value) (w : World) : (callFunc 55 (#[a, b] ++ #[])).run Tryz.prog w = .ok (.enter 55 (#[a, b] ++ #[])) w := by kernel_rfl
theorem enter_remove (a b : Value) (w : World) : (callFunc 66 (#[a, b] ++ #[])).run Tryz.prog w = .ok (.enter 66 (#[a, b] ++ #[])) w := by kernel_rfl
theorem enter_rename (a b c : Value) (w : World) : (callFunc 84 (#[a, b] ++ #[c])).run Tryz.prog w = .ok (.enter 84 (#[a, b] ++ #[c])) w := by kernel_rfl
def Dk.syn (x : Dk) (s : Nm) (f : Fl) : Dk := { x with fs := updF x.fs s (some ⟨f.b, f.v, f.bs, f.bs.length⟩) }
set_option maxRecDepth 100000 in
theorem sync_none (h : DiskAt x W) (hd : x.dead = false) (ha : x.after ≠ 0) (hx : Fine x) (hf : x.fs s = none) (hs : s.length ≤ maxLen) :
    Calls Tryz.prog 58 #[.pointer (some ⟨x.d, 0, none⟩), .string (str s)] W fun e W' => e = .returned (.int .i64 6) ∧ DiskAt x.tick W' ∧ Chg x.ft x.ft W W' := by
  have HC := Lib.hid (change_none h hd ha hx hf hs 55 #[])
  clear h hd ha hx hf hs
  generalize str s = y at *
  go_enter Tryz.func58, Tryz.ntmps58
  go_wp2_with fail
  refine HC.out.mono ?_
  rintro e W2 ⟨rfl, hq⟩
  have HQ := Lib.hid hq
  clear hq HC
  go_wp2_with fail
  go_ret
  exact ⟨rfl, HQ.out⟩
set_option maxRecDepth 100000 in
theorem sync_some (h : DiskAt x W) (hd : x.dead = false) (ha : x.after ≠ 0) (hx : Fine x) {f : Fl} (hf : x.fs s = some f) (hs : s.length ≤ maxLen) :
    Calls Tryz.prog 58 #[.pointer (some ⟨x.d, 0, none⟩), .string (str s)] W fun e W' => e = .returned (.int .i64 0) ∧ DiskAt (x.tick.syn s f) W' ∧ Chg x.ft (x.tick.syn s f).ft W W' := by
  have HC := Lib.hid (change_some h hd ha hx hf hs 55 #[] (enter_secure _ _) (fun W' => DiskAt (x.tick.syn s f) W' ∧ Chg x.ft (x.tick.syn s f).ft W W') fun W1 h1 hc1 => by
    refine (secure_c h1 hf hs).mono ?_
    rintro e W2 ⟨rfl, q1, q2⟩
    exact ⟨rfl, q1, hc1.trans q2⟩)
  clear h hd ha hx hs
  generalize str s = y at *
  go_enter Tryz.func58, Tryz.ntmps58
  go_wp2_with fail
  refine HC.out.mono ?_
  rintro e W2 ⟨rfl, hq⟩
  have HQ := Lib.hid hq
  clear hq HC
  go_wp2_with fail
  go_ret
  exact ⟨rfl, HQ.out⟩
def Dk.rem (x : Dk) (s : Nm) (f : Fl) : Dk := { x with fs := updF x.fs s none, used := x.used - f.bs.length }
set_option maxRecDepth 100000 in
theorem delete_some (h : DiskAt x W) (hd : x.dead = false) (ha : x.after ≠ 0) (hx : Fine x) {f : Fl} (hf : x.fs s = some f) (hs : s.length ≤ maxLen) (hb : f.bs.length ≤ 1000000000) :
    Calls Tryz.prog 43 #[.pointer (some ⟨x.d, 0, none⟩), .string (str s)] W fun e W' => e = .returned (.int .i64 0) ∧ DiskAt (x.tick.rem s f) W' ∧ Chg x.ft (x.tick.rem s f).ft W W' := by
  have HC := Lib.hid (change_some h hd ha hx hf hs 66 #[] (enter_remove _ _) (fun W' => DiskAt (x.tick.rem s f) W' ∧ Chg x.ft (x.tick.rem s f).ft W W') fun W1 h1 hc1 => by
    refine (remove_c h1 hf hs hb ⟨by have := hx.used; show (-1000000000000 : Int) ≤ x.used; omega, by have := hx.used; show x.used ≤ (1000000000000 : Int); omega⟩).mono ?_
    rintro e W2 ⟨rfl, q1, q2⟩
    exact ⟨rfl, q1, hc1.trans q2⟩)
  clear h hd ha hx hs
  generalize str s = y at *
  go_enter Tryz.func43, Tryz.ntmps43
  go_wp2_with fail
  refine HC.out.mono ?_
  rintro e W2 ⟨rfl, hq⟩
  have HQ := Lib.hid hq
  clear hq HC
  go_wp2_with fail
  go_ret
  exact ⟨rfl, HQ.out⟩
set_option maxRecDepth 100000 in
theorem delete_none (h : DiskAt x W) (hd : x.dead = false) (ha : x.after ≠ 0) (hx : Fine x) (hf : x.fs s = none) (hs : s.length ≤ maxLen) :
    Calls Tryz.prog 43 #[.pointer (some ⟨x.d, 0, none⟩), .string (str s)] W fun e W' => e = .returned (.int .i64 6) ∧ DiskAt x.tick W' ∧ Chg x.ft x.ft W W' := by
  have HC := Lib.hid (change_none h hd ha hx hf hs 66 #[])
  clear h hd ha hx hf hs
  generalize str s = y at *
  go_enter Tryz.func43, Tryz.ntmps43
  go_wp2_with fail
  refine HC.out.mono ?_
  rintro e W2 ⟨rfl, hq⟩
  have HQ := Lib.hid hq
  clear hq HC
  go_wp2_with fail
  go_ret
  exact ⟨rfl, HQ.out⟩
end
end Go.Proofs.YtialfpkmcafkmaaGreat
