/- Calls of a set: Addr, Made, Gone, HasAddr, Total, Mark, New, Refund. -/
import Derived.Test.YtginibphicmmmaaJe
namespace Go.Proofs.Ytginibphicmmmaa
open Go.RowKit Go.Maps Mp

section
variable {x : Sx} {b n : Nat} {L : List Cg} {W : World}
theorem MapFn.alloc {K V : Type} {T : Kit Try.prog K V} {m n : Nat} {f : K → Option V} {W : World} (h : MapFn T m n f W) (o : Obj) : MapFn T m n f (W.alloc o) := h.keep (Below.heap_alloc _ _ _ h.lt)
theorem WAt.step_same (h : WAt x b L n W) {V : World} (hb : Below W.heap.size W V) : Step x b L (n + 1) W V := ⟨x, (h.ob.below hb).it.mono (Nat.le_succ n), Chg.of_below hb, rfl⟩
set_option maxRecDepth 100000 in
set_option maxHeartbeats 4000000 in
theorem addr_c (h : WAt x b L n W) (hn : n < 1000000000) {a : Nm} (ha : a.length ≤ big) :
    Calls Try.prog 20 #[ptr b, .string (str a)] W fun e W' => e = .returned (.bool (hasBy plOf L ⟨a, true, Wq.zero⟩).isSome) ∧ Step x b (noteBy plOf (.addr a) ⟨a, true, Wq.zero⟩ L) (n + 1) W W' := by
  have C := Lib.hid (touchP_c h hn (p := ⟨a, true, Wq.zero⟩) ⟨ha, Wq.zero_ok⟩ (c := .addr a) rfl)
  obtain ⟨⟨d0, _⟩, _⟩ := h.cells
  unfold plC Wq.zero ptr at *
  clear h hn ha
  go_enter Try.func20, Try.ntmps20
  go_wp2_with fail
  refine C.out.mono ?_
  rintro e V1 ⟨rfl, h1⟩
  have H := Lib.hid h1
  clear h1
  go_wp2_with fail
  go_ret
  exact ⟨rfl, H.out⟩
set_option maxRecDepth 100000 in
set_option maxHeartbeats 4000000 in
theorem made_c (h : WAt x b L n W) (hn : n < 1000000000) {a : Nm} (ha : a.length ≤ big) :
    Calls Try.prog 28 #[ptr b, .string (str a)] W fun e W' => e = .returned (.bool (hasBy mdOf L a).isSome) ∧ Step x b (noteBy mdOf (.made a) a L) (n + 1) W W' := by
  have C := Lib.hid (touchM_c h hn ha (c := .made a) rfl)
  obtain ⟨⟨_, d0, _⟩, _⟩ := h.cells
  unfold ptr at *
  clear h hn ha
  go_enter Try.func28, Try.ntmps28
  go_wp2_with fail
  refine C.out.mono ?_
  rintro e V1 ⟨rfl, h1⟩
  have H := Lib.hid h1
  clear h1
  go_wp2_with fail
  go_ret
  exact ⟨rfl, H.out⟩
set_option maxRecDepth 100000 in
set_option maxHeartbeats 4000000 in
theorem gone_c (h : WAt x b L n W) (hn : n < 1000000000) {a : Nm} (ha : a.length ≤ big) :
    Calls Try.prog 24 #[ptr b, .string (str a)] W fun e W' => e = .returned (.tuple #[]) ∧ Step x b (noteBy gnOf (.gone a) a L) (n + 1) W W' := by
  have C := Lib.hid (touchG_c h hn ha (c := .gone a) rfl)
  obtain ⟨⟨_, _, d0, _⟩, _⟩ := h.cells
  unfold ptr at *
  clear h hn ha
  go_enter Try.func24, Try.ntmps24
  go_wp2_with fail
  refine C.out.mono ?_
  rintro e V1 ⟨rfl, h1⟩
  have H := Lib.hid h1
  clear h1
  go_wp2_with fail
  go_end0
  exact ⟨rfl, H.out⟩
set_option maxRecDepth 100000 in
set_option maxHeartbeats 4000000 in
theorem hasAddr_c (h : WAt x b L n W) {a : Nm} (ha : a.length ≤ big) :
    Calls Try.prog 27 #[ptr b, .string (str a)] W fun e W' => e = .returned (.bool (hasBy plOf L ⟨a, true, Wq.zero⟩).isSome) ∧ Below W.heap.size W W' := by
  have C := Lib.hid (hasP_c h.mw (p := ⟨a, true, Wq.zero⟩) ⟨ha, Wq.zero_ok⟩)
  obtain ⟨⟨d0, _⟩, _⟩ := h.cells
  unfold plC Wq.zero ptr at *
  clear h ha
  go_enter Try.func27, Try.ntmps27
  go_wp2_with fail
  refine C.out.mono ?_
  rintro e V1 ⟨rfl, h1⟩
  have H := Lib.hid h1
  clear h1
  go_wp2_with fail
  go_ret
  exact ⟨rfl, H.out⟩
set_option maxRecDepth 100000 in
theorem total_c (h : WAt x b L n W) : Calls Try.prog 16 #[ptr b] W fun e W' => e = .returned (.int .i64 (tot L)) ∧ W' = W := by
  obtain ⟨⟨_, _, _, d0, _⟩, _⟩ := h.cells
  unfold ptr at *
  clear h
  go_enter Try.func16, Try.ntmps16
  go_wp2_with fail
  go_ret
  exact ⟨rfl, rfl⟩
set_option maxRecDepth 100000 in
theorem mark_c (h : WAt x b L n W) : Calls Try.prog 18 #[ptr b] W fun e W' => e = .returned (.int .i64 (L.length : Nat)) ∧ W' = W := by
  obtain ⟨⟨_, _, _, _, _, d0⟩, _⟩ := h.cells
  obtain ⟨a, c, hv⟩ := own_any h.brow
  rw [hv] at d0
  unfold ptr at *
  clear h hv
  go_enter Try.func18, Try.ntmps18
  go_wp2_with fail
  go_ret
  exact ⟨rfl, rfl⟩
def Sx.new (m : Nat) : Sx := ⟨m, m + 1, m + 2, .slice none 0 0, [], .slice none 0 0, [], []⟩
set_option maxRecDepth 100000 in
set_option maxHeartbeats 4000000 in
theorem new_c (W : World) : Calls Try.prog 9 #[] W fun e W' => e = .returned (ptr (W.heap.size + 3)) ∧ WAt (Sx.new W.heap.size) (W.heap.size + 3) [] 0 W' ∧ Below W.heap.size W W' := by
  have hmm := @run_makeMap Try.prog
  unfold ptr
  go_enter Try.func9, Try.ntmps9
  go_wp2_with fail
  go_ret
  have hb1 : Below W.heap.size W (((W.alloc (.map #[] 0)).alloc (.map #[] 0)).alloc (.map #[] 0)) := (((Below.refl _ W).alloc (Nat.le_refl _) _).alloc (by simp) _).alloc (by simp; omega) _
  have m0 := MapFn.made kitP W
  have m1 := MapFn.made kitS (W.alloc (.map #[] 0))
  have m2 := MapFn.made kitS ((W.alloc (.map #[] 0)).alloc (.map #[] 0))
  simp only [alloc_size] at m1 m2
  have k0 := MapFn.alloc (MapFn.alloc (MapFn.alloc m0 (.map #[] 0)) (.map #[] 0)) (.cells #[.map (some W.heap.size), .map (some (W.heap.size + 1)), .map (some (W.heap.size + 1 + 1)), .int .i64 0, .slice none 0 0, .slice none 0 0] 64)
  have k1 := MapFn.alloc (MapFn.alloc m1 (.map #[] 0)) (.cells #[.map (some W.heap.size), .map (some (W.heap.size + 1)), .map (some (W.heap.size + 1 + 1)), .int .i64 0, .slice none 0 0, .slice none 0 0] 64)
  have k2 := MapFn.alloc m2 (.cells #[.map (some W.heap.size), .map (some (W.heap.size + 1)), .map (some (W.heap.size + 1 + 1)), .int .i64 0, .slice none 0 0, .slice none 0 0] 64)
  have hc := heap_alloc_new (((W.alloc (.map #[] 0)).alloc (.map #[] 0)).alloc (.map #[] 0)) (.cells #[.map (some W.heap.size), .map (some (W.heap.size + 1)), .map (some (W.heap.size + 1 + 1)), .int .i64 0, .slice none 0 0, .slice none 0 0] 64)
  simp only [alloc_size] at hc
  refine ⟨rfl, ⟨hc, by rw [hasBy_nil]; exact k0, by rw [hasBy_nil]; exact k1, by rw [hasBy_nil]; exact k2, World.ownsRow_nil _ _ _ _, trivial, World.ownsRow_nil _ _ _ _, trivial, fun _ h => (by cases h), by simp [Sx.new], by simp [Sx.new], by simp [Sx.new], Nat.le_refl _, trivial⟩, hb1.alloc (by simp; omega) _⟩
set_option maxRecDepth 100000 in
set_option maxHeartbeats 4000000 in
theorem refund_c (h : WAt x b L n W) (hn : n < 1000000000) (k : Int) :
    Calls Try.prog 21 #[ptr b, .int .i64 k] W fun e W' => e = .returned (.tuple #[]) ∧ Step x b (.refund k :: L) (n + 1) W W' := by
  have M := (An.start h.ob).alloc (.cells #[ptr b] 24 (0, 0))
  have HM := Lib.hid M
  obtain ⟨⟨_, _, _, d0, _⟩, e0⟩ := M.ob.it.cells
  have e3 := e0 3
  unfold ptr at *
  clear M h e0
  go_enter Try.func21, Try.ntmps21
  go_upto_region 2 with fail
  have M2 := HM.out.alloc (.cells #[.int .i64 (tot L)] 2 (0, 0))
  rw [alloc_size] at M2
  clear HM d0 e3
  generalize World.alloc _ _ = V2 at M2 ⊢
  obtain ⟨⟨_, _, _, d0, _⟩, e0⟩ := M2.ob.it.cells
  have e3 := e0 3
  have a0 := cell_of (M2.at (q := W.heap.size) (List.mem_cons_of_mem _ (List.mem_cons_self ..))) 0
  simp only [List.getElem?_toArray, List.getElem?_cons_zero] at a0
  have HM := Lib.hid M2
  clear M2 e0
  go_upto_region 3 with fail
  have hb := HM.out.ob.it
  have h3 : (V2.setCell ⟨b, 3, none⟩ (.int .i64 (wrap64 (tot L + k)))).heap[b]? = some (.cells #[.map (some x.mw), .map (some x.mm), .map (some x.mg), .int .i64 (tot (.refund k :: L)), x.lv, x.bv] 64 (0, 0)) := by
    have h2 := heap_setCell_same _ _ 3 _ _ (.int .i64 (wrap64 (tot L + k))) hb.cell
    rw [show tot (.refund k :: L) = wrap64 (tot L + k) from rfl]
    simpa [setC] using h2
  have o3 : ∀ j, j ≠ b → (V2.setCell ⟨b, 3, none⟩ (.int .i64 (wrap64 (tot L + k)))).heap[j]? = V2.heap[j]? := fun j hj => heap_setCell_other _ _ _ _ (by simpa using hj)
  have c3 : Chg (fun j => j = b) (fun j => j = b) V2 (V2.setCell ⟨b, 3, none⟩ (.int .i64 (wrap64 (tot L + k)))) := chg_set (F := fun j => j = b) (F' := fun j => j = b) (Chg.refl _ V2) (Or.inl rfl) 3 _
  clear d0 e3 a0
  generalize World.setCell _ _ _ = V3 at h3 o3 c3 ⊢
  have hq : W.heap.size ≠ b := fun e => (HM.out.box (W.heap.size, _) (List.mem_cons_of_mem _ (List.mem_cons_self ..))).2.2 (by rw [show (W.heap.size, Obj.cells #[.pointer (some ⟨b, 0, none⟩)] 24 (0, 0)).1 = b from e]; exact Or.inl (Or.inl rfl))
  have a0 := cell_of ((o3 _ hq).trans (HM.out.at (q := W.heap.size) (List.mem_cons_of_mem _ (List.mem_cons_self ..)))) 0
  simp only [List.getElem?_toArray, List.getElem?_cons_zero] at a0
  have CG := Lib.hid (change_c (W := V3) h3 (own_keep hb.brow fun j hj => o3 j (hb.bv_ne hj).1) (by have := hb.few; omega) 44 #[] #[ptr (W.heap.size + 1), ptr W.heap.size])
  have HV := Lib.hid (And.intro o3 c3)
  unfold ptr at *
  clear hb h3 o3 c3 hq
  go_wp2_with fail
  refine CG.out.mono ?_
  rintro e V5 ⟨rfl, bv', q1, q2, q3, q4⟩
  have HQ := Lib.hid (And.intro q1 (And.intro q2 (And.intro q3 q4)))
  clear q1 q2 q3 q4
  go_wp2_with fail
  go_end0
  obtain ⟨q1, q2, q3, q4⟩ := HQ.out
  obtain ⟨o3, c3⟩ := HV.out
  have M := HM.out
  have h := M.ob.it
  have s3 : V2.heap.size ≤ V3.heap.size := c3.size
  have keep : ∀ j, j < V2.heap.size → j ≠ b → x.bv.ownBlock ≠ some j → V5.heap[j]? = V2.heap[j]? := fun j hj h1 h2 => (q4.block j (Nat.lt_of_lt_of_le hj s3) fun e => e.elim h1 h2).trans (o3 j h1)
  have mapk : ∀ j, j = x.mw ∨ j = x.mm ∨ j = x.mg → V5.heap[j]? = V2.heap[j]? := fun j hj => by
    rcases hj with rfl | rfl | rfl
    · exact keep _ h.mw.lt (Ne.symm h.b_ne.1) fun e => (h.bv_ne e).2.1 rfl
    · exact keep _ h.mm.lt (Ne.symm h.b_ne.2.1) fun e => (h.bv_ne e).2.2.1 rfl
    · exact keep _ h.mg.lt (Ne.symm h.b_ne.2.2) fun e => (h.bv_ne e).2.2.2.1 rfl
  have P := h.push (W0 := W) M.chg (c := .refund k) (V := V5) (lv' := x.lv) (bv' := bv') (ts' := x.ts) (v := .func (.func 44) #[] #[ptr (W.heap.size + 1), ptr W.heap.size]) (new := [(W.heap.size + 1, .cells #[.int .i64 (tot L)] 2 (0, 0)), (W.heap.size, .cells #[ptr b] 24 (0, 0))])
    (q4.os.trans c3.os) (q4.tape.trans c3.tape) (q4.output.trans c3.output) (Nat.le_trans s3 q4.size)
    (fun j hj hn => keep j hj (fun e => hn (Or.inl e)) (fun e => hn (Or.inr (Or.inr (Or.inr (Or.inr (Or.inr e)))))))
    q1 (by rw [hasBy_none rfl]; exact (h.mw.keep (mapk _ (Or.inl rfl))).mono (Nat.le_succ n)) (by rw [hasBy_none rfl]; exact (h.mm.keep (mapk _ (Or.inr (Or.inl rfl)))).mono (Nat.le_succ n)) (by rw [hasBy_none rfl]; exact (h.mg.keep (mapk _ (Or.inr (Or.inr rfl)))).mono (Nat.le_succ n))
    (own_keep h.lrow fun j hj => keep j (h.lrow_lt hj) (h.lv_ne hj).1 (h.lv_ne hj).2.2.2.2) (h.tops.more fun z hz => List.mem_append_right _ hz) q2 ⟨_, _, rfl, by simp, by simp⟩
    (fun p hp => ?_) (fun j hj => Or.inl hj) (fun j hj => (q3 j hj).imp id fun e => Nat.le_trans s3 e) ⟨fun _ h => (by cases h), fun _ h => (by cases h), fun _ h => (by cases h), h.once⟩
  · exact ⟨rfl, _, P.1, P.2, rfl⟩
  · obtain ⟨h1, h2, h3⟩ := M.box p hp
    have h4 : ¬ x.mv b p.1 := fun e => h3 (Or.inl e)
    exact ⟨(keep p.1 (lt_of h1) (fun e => h4 (Or.inl e)) (fun e => h4 (Or.inr (Or.inr (Or.inr (Or.inr (Or.inr e))))))).trans h1, h2, h4, lt_of h1⟩
end
end Go.Proofs.Ytginibphicmmmaa
