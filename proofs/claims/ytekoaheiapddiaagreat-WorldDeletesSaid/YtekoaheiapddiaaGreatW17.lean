/- Merged: Hy. -/
import Derived.Test.YtekoaheiapddiaaGreatW16
import Derived.Test.YtekoaheiapddiaaGreatW08
section
namespace Go.Proofs.YtekoaheiapddiaaGreat.Dz.Wo
open Go.RowKit Go.Maps Mp

theorem ob0 (W : World) : Ob (fun _ => True) (fun _ => False) W := ⟨trivial, fun _ h => h.elim, fun _ _ => trivial⟩
section
variable {w : Wd} {b n : Nat} {L : List (Nat × Obj)} {W V V' : World}
theorem St.newA (M : An (fun _ => True) (fun _ => False) W (fun _ => False) L V) : Calls Tryz.prog 26 #[.pointer none] V fun e V' => e = .returned (.pointer (some ⟨V.heap.size + 2, 0, none⟩)) ∧ St (Wd.new .no) (V.heap.size + 2) 0 L W V' :=
  St.new ⟨M.chg.os, M.chg.tape, M.chg.output, M.chg.size, fun k hk => M.chg.block k hk fun e => e⟩ fun x hx => ⟨(M.box x hx).1, (M.box x hx).2.1⟩
theorem St.put {q : Nat} {o o' : Obj} (h : St w b n ((q, o) :: L) W V) (hc : Chg (fun k => k = q) (fun k => k = q) V V') (ho : V'.heap[q]? = some o') (hL : ∀ x ∈ L, x.1 ≠ q) : St w b n ((q, o') :: L) W V' := by
  obtain ⟨hf, x, ff, M⟩ := h
  exact ⟨hf, x, ff, M.put hc ho hL⟩
end
theorem Wd.ac_slotted (w : Wd) (a : Nm) (k v : Nat) : (w.slotted a k v).ac a = w.ac a := by
  unfold Wd.ac Wd.slotted Wd.set Wd.ent
  simp [upf_same]
theorem Wd.ac_wiped (w : Wd) (a : Nm) : (w.wiped a).ac a = AccP.zero := by
  unfold Wd.ac Wd.wiped Wd.set Wd.ent
  simp [upf_same]
theorem Wd.sl_slotted (w : Wd) (a : Nm) (k v : Nat) : (((w.slotted a k v).ent a).sl k).getD 0 = v := by
  unfold Wd.slotted Wd.set Wd.ent
  simp [upf_same]
theorem Wd.sl_wiped (w : Wd) (a : Nm) (k : Nat) : (((w.wiped a).ent a).sl k).getD 0 = 0 := by
  unfold Wd.wiped Wd.set Wd.ent
  simp [upf_same]
theorem wordC_one : wordC 1 = #[.int .u64 0, .int .u64 0, .int .u64 0, .int .u64 1] := by
  have h0 : l3 1 = 0 ∧ l2 1 = 0 ∧ l1 1 = 0 ∧ l0 1 = 1 := by decide
  obtain ⟨h3, h2, h1, h0⟩ := h0
  simp [wordC, h3, h2, h1, h0]
set_option maxRecDepth 100000 in
set_option maxHeartbeats 16000000 in
theorem del_c (k bal p q : Nat) (cs : Nm) (W : World) :
    Calls Tryz.prog 8 #[.agg #[.int .u64 k, .int .u64 (l3 bal : Nat), .int .u64 (l2 bal : Nat), .int .u64 (l1 bal : Nat), .int .u64 (l0 bal : Nat), .string (str cs)], .agg #[.int .u64 (l3 p : Nat), .int .u64 (l2 p : Nat), .int .u64 (l1 p : Nat), .int .u64 (l0 p : Nat)], .agg #[.int .u64 (l3 q : Nat), .int .u64 (l2 q : Nat), .int .u64 (l1 q : Nat), .int .u64 (l0 q : Nat)]] W fun e W' => e = .returned (.bool true) ∧ Below W.heap.size W W' := by
  obtain ⟨m, hm⟩ : ∃ m, m = min cs.length 100 := ⟨_, rfl⟩
  have hst := str_take cs m
  have hml : m ≤ (str cs).size := by rw [str_size, hm]; exact Nat.min_le_left _ _
  have hsz : (str cs).size = cs.length := str_size _
  have hmin : min (cs.length : Int) 100 = (m : Int) := by omega
  have hcl : (cs.take m).length ≤ 24576 := by rw [List.length_take]; omega
  have HCL := Lib.hid hcl
  clear hm hcl
  have AD := Lib.hid (fun V => address_c 2 (by omega) V)
  rw [show ((2 : Nat) : Int) = 2 from rfl] at AD
  have ha := addr_len (n := 2) (by omega)
  generalize addrP 2 = a at AD ha
  have HA := Lib.hid ha
  clear ha
  go_enter Tryz.func8, Tryz.ntmps8
  go_wp2_with fail
  refine (exam_c _).mono ?_
  rintro e V0 ⟨rfl, hb⟩
  obtain ⟨oX, hoX⟩ : ∃ o : Obj, o = .cells #[.int .u64 k, .int .u64 (l3 bal : Nat), .int .u64 (l2 bal : Nat), .int .u64 (l1 bal : Nat), .int .u64 (l0 bal : Nat), .string (str cs)] 82 (0, 0) := ⟨_, rfl⟩
  have M1 := ((((An.start (ob0 W)).alloc oX).alloc (wordO p)).alloc (wordO q)).call (by rw [hoX]; exact hb)
  rw [alloc_size, alloc_size] at M1
  have M2 := M1.sub (L' := [(W.heap.size, oX), (W.heap.size + 1, wordO p), (W.heap.size + 1 + 1, wordO q)]) (by simp)
  have HN := Lib.hid (St.newA M2)
  have HOX := Lib.hid hoX
  clear M1 M2 hb hoX
  go_wp2_with fail
  refine HN.out.mono ?_
  rintro e V0' ⟨rfl, h9⟩
  obtain ⟨b, hb⟩ : ∃ b, b = V0.heap.size + 2 := ⟨_, rfl⟩
  rw [← hb] at h9 ⊢
  have H0 := Lib.hid h9
  clear HN h9 hb
  go_wp2_with fail
  refine (AD.out _).mono ?_
  rintro e V1 ⟨rfl, h9⟩
  have H1 := Lib.hid (H0.out.call h9)
  clear H0 h9
  have k1 := H1.out.at (q := W.heap.size) (o := oX) (List.mem_cons_self ..)
  rw [HOX.out] at k1
  have k2 := heap_setCell_same V1 W.heap.size 5 _ _ (.string (str (cs.take m))) k1
  have H2 := Lib.hid (H1.out.put (chg_set (F := fun k => k = W.heap.size) (F' := fun k => k = W.heap.size) (Chg.refl _ V1) (Or.inl rfl) 5 (.string (str (cs.take m)))) (o' := .cells #[.int .u64 k, .int .u64 (l3 bal : Nat), .int .u64 (l2 bal : Nat), .int .u64 (l1 bal : Nat), .int .u64 (l0 bal : Nat), .string (str (cs.take m))] 82 (0, 0)) (by rw [k2]; rfl) (by simp; omega))
  obtain ⟨⟨_, _, _, _, _, c5⟩, _, _, _, _, _, d5⟩ := cells6 k1
  clear k1 k2 H1 AD HOX
  have C := Lib.hid (fun V => wFrom (x := 1) (by unfold M64; omega) V)
  rw [show ((1 : Nat) : Int) = 1 from rfl, wordC_one] at C
  go_wp2_with fail
  refine (C.out _).mono ?_
  rintro e V2 ⟨rfl, h9⟩
  have H3 := Lib.hid ((H2.out.call h9).alloc (.cells #[.int .u64 0, .int .u64 0, .int .u64 0, .int .u64 1] 61 (0, 0)))
  clear H2 h9 C c5 d5 hst hml hsz hmin
  have bx := H3.out.at (q := W.heap.size) (o := .cells #[.int .u64 k, .int .u64 (l3 bal : Nat), .int .u64 (l2 bal : Nat), .int .u64 (l1 bal : Nat), .int .u64 (l0 bal : Nat), .string (str (cs.take m))] 82 (0, 0)) (List.mem_cons_of_mem _ (List.mem_cons_self ..))
  obtain ⟨⟨c1_0, c1_1, c1_2, c1_3, c1_4, c1_5⟩, _⟩ := cells6 bx
  clear bx
  have C := Lib.hid (H3.out.nonce (by omega) HA.out k)
  rw [Wd.ac_new] at C
  go_wp2_with fail
  refine C.out.mono ?_
  rintro e V3 ⟨rfl, h9⟩
  have H4 := Lib.hid h9
  clear C H3 h9
  clear c1_0 c1_1 c1_2 c1_3 c1_4 c1_5
  have bx := H4.out.at (q := W.heap.size) (o := .cells #[.int .u64 k, .int .u64 (l3 bal : Nat), .int .u64 (l2 bal : Nat), .int .u64 (l1 bal : Nat), .int .u64 (l0 bal : Nat), .string (str (cs.take m))] 82 (0, 0)) (List.mem_cons_of_mem _ (List.mem_cons_self ..))
  obtain ⟨⟨c2_0, c2_1, c2_2, c2_3, c2_4, c2_5⟩, _⟩ := cells6 bx
  clear bx
  have C := Lib.hid (H4.out.balance (by omega) HA.out bal)
  simp only [Wd.ac_setAcc] at C
  unfold wordC at C
  go_wp2_with fail
  refine C.out.mono ?_
  rintro e V4 ⟨rfl, h9⟩
  have H5 := Lib.hid h9
  clear C H4 h9
  clear c2_0 c2_1 c2_2 c2_3 c2_4 c2_5
  have bx := H5.out.at (q := W.heap.size) (o := .cells #[.int .u64 k, .int .u64 (l3 bal : Nat), .int .u64 (l2 bal : Nat), .int .u64 (l1 bal : Nat), .int .u64 (l0 bal : Nat), .string (str (cs.take m))] 82 (0, 0)) (List.mem_cons_of_mem _ (List.mem_cons_self ..))
  obtain ⟨⟨c3_0, c3_1, c3_2, c3_3, c3_4, c3_5⟩, _⟩ := cells6 bx
  clear bx
  have C := Lib.hid (H5.out.code (by omega) HA.out (s := cs.take m) HCL.out)
  simp only [Wd.ac_setAcc] at C
  go_wp2_with fail
  refine C.out.mono ?_
  rintro e V5 ⟨rfl, h9⟩
  have H6 := Lib.hid h9
  clear C H5 h9
  clear c3_0 c3_1 c3_2 c3_3 c3_4 c3_5
  have bx := H6.out.at (q := V2.heap.size) (o := .cells #[.int .u64 0, .int .u64 0, .int .u64 0, .int .u64 1] 61 (0, 0)) (List.mem_cons_self ..)
  obtain ⟨⟨c4_0, c4_1, c4_2, c4_3⟩, _⟩ := cells4 bx
  clear bx
  have bx := H6.out.at (q := W.heap.size + 1) (o := wordO p) (List.mem_cons_of_mem _ (List.mem_cons_of_mem _ (List.mem_cons_self ..)))
  unfold wordO wordC at bx
  obtain ⟨⟨c5_0, c5_1, c5_2, c5_3⟩, _⟩ := cells4 bx
  clear bx
  have C := Lib.hid (H6.out.setSlot (by omega) HA.out (k := 1) (by decide) p)
  rw [wordC_one] at C
  unfold wordC at C
  go_wp2_with fail
  refine C.out.mono ?_
  rintro e V6 ⟨rfl, h9⟩
  have H7 := Lib.hid h9
  clear C H6 h9
  clear c4_0 c4_1 c4_2 c4_3 c5_0 c5_1 c5_2 c5_3
  obtain ⟨w4, hw4⟩ : ∃ w4, w4 = ((((Wd.new .no).setAcc a ⟨k, AccP.zero.bal, AccP.zero.code⟩).setAcc a ⟨k, bal, AccP.zero.code⟩).setAcc a ⟨k, bal, cs.take m⟩).slotted a 1 p := ⟨_, rfl⟩
  rw [← hw4] at H7
  have HAC := Lib.hid (show w4.ac a = ⟨k, bal, cs.take m⟩ by rw [hw4, Wd.ac_slotted, Wd.ac_setAcc])
  have HSL := Lib.hid (show ((w4.ent a).sl 1).getD 0 = p by rw [hw4, Wd.sl_slotted])
  have HFN := Lib.hid (show w4.far = .no by rw [hw4]; rfl)
  have HOL := Lib.hid (show w4.old.length = 4 by rw [hw4]; rfl)
  clear hw4
  have C := Lib.hid (H7.out.mark)
  rw [HOL.out, show ((4 : Nat) : Int) = 4 from rfl] at C
  go_wp2_with fail
  refine C.out.mono ?_
  rintro e V7 ⟨rfl, rfl⟩
  clear C
  have C := Lib.hid (H7.out.delete (by omega) HA.out)
  go_wp2_with fail
  refine C.out.mono ?_
  rintro e V8 ⟨rfl, h9⟩
  have H8 := Lib.hid h9
  clear C H7 h9
  have C := Lib.hid (H8.out.acct HA.out)
  rw [Wd.ac_wiped, accZero] at C
  go_wp2_with fail
  refine C.out.mono ?_
  rintro e V9 ⟨rfl, h9⟩
  have H9 := Lib.hid (h9.alloc (.cells #[.int .u64 0, .int .u64 0, .int .u64 0, .int .u64 0, .int .u64 0, .string ⟨#[]⟩] 82 (0, 0)))
  clear C H8 h9
  have bx := H9.out.at (q := V2.heap.size) (o := .cells #[.int .u64 0, .int .u64 0, .int .u64 0, .int .u64 1] 61 (0, 0)) (List.mem_cons_of_mem _ (List.mem_cons_self ..))
  obtain ⟨⟨c6_0, c6_1, c6_2, c6_3⟩, _⟩ := cells4 bx
  clear bx
  have C := Lib.hid (H9.out.slot HA.out (k := 1) (by decide))
  rw [Wd.sl_wiped, wordC_zero] at C
  rw [wordC_one] at C
  go_wp2_with fail
  refine C.out.mono ?_
  rintro e V10 ⟨rfl, h9⟩
  have H10 := Lib.hid (h9.alloc (.cells #[.int .u64 0, .int .u64 0, .int .u64 0, .int .u64 0] 61 (0, 0)))
  clear C H9 h9
  clear c6_0 c6_1 c6_2 c6_3
  have bx := H10.out.at (q := V2.heap.size) (o := .cells #[.int .u64 0, .int .u64 0, .int .u64 0, .int .u64 1] 61 (0, 0)) (List.mem_cons_of_mem _ (List.mem_cons_of_mem _ (List.mem_cons_self ..)))
  obtain ⟨⟨c7_0, c7_1, c7_2, c7_3⟩, _⟩ := cells4 bx
  clear bx
  have bx := H10.out.at (q := W.heap.size + 1 + 1) (o := wordO q) (List.mem_cons_of_mem _ (List.mem_cons_of_mem _ (List.mem_cons_of_mem _ (List.mem_cons_of_mem _ (List.mem_cons_of_mem _ (List.mem_cons_self ..))))))
  unfold wordO wordC at bx
  obtain ⟨⟨c8_0, c8_1, c8_2, c8_3⟩, _⟩ := cells4 bx
  clear bx
  have C := Lib.hid (H10.out.setSlot (by omega) HA.out (k := 1) (by decide) q)
  rw [wordC_one] at C
  unfold wordC at C
  go_wp2_with fail
  refine C.out.mono ?_
  rintro e V11 ⟨rfl, h9⟩
  have H11 := Lib.hid h9
  clear C H10 h9
  clear c7_0 c7_1 c7_2 c7_3 c8_0 c8_1 c8_2 c8_3
  have bx := H11.out.at (q := V2.heap.size) (o := .cells #[.int .u64 0, .int .u64 0, .int .u64 0, .int .u64 1] 61 (0, 0)) (List.mem_cons_of_mem _ (List.mem_cons_of_mem _ (List.mem_cons_self ..)))
  obtain ⟨⟨c9_0, c9_1, c9_2, c9_3⟩, _⟩ := cells4 bx
  clear bx
  have C := Lib.hid (H11.out.slot HA.out (k := 1) (by decide))
  rw [Wd.sl_slotted] at C
  rw [wordC_one] at C
  unfold wordC at C
  go_wp2_with fail
  refine C.out.mono ?_
  rintro e V12 ⟨rfl, h9⟩
  have H12 := Lib.hid (h9.alloc (.cells #[.int .u64 (l3 q : Nat), .int .u64 (l2 q : Nat), .int .u64 (l1 q : Nat), .int .u64 (l0 q : Nat)] 61 (0, 0)))
  clear C H11 h9
  clear c9_0 c9_1 c9_2 c9_3
  have C := Lib.hid (H12.out.backTo (w0 := w4) (by omega) (mk := 4) (by show 4 ≤ w4.old.length + 1 + 1; have := HOL.out; omega) HFN.out (by show pops (w4.old.length + 1 + 1 - 4) _ _ = _; rw [HOL.out]; rfl))
  rw [show ((4 : Nat) : Int) = 4 from rfl] at C
  go_wp2_with fail
  refine C.out.mono ?_
  rintro e V13 ⟨rfl, h9⟩
  have H13 := Lib.hid h9
  clear C H12 h9
  have C := Lib.hid (H13.out.acct HA.out)
  rw [HAC.out] at C
  unfold accCells at C
  go_wp2_with fail
  refine C.out.mono ?_
  rintro e V14 ⟨rfl, h9⟩
  have H14 := Lib.hid (h9.alloc (.cells #[.int .u64 k, .int .u64 (l3 bal : Nat), .int .u64 (l2 bal : Nat), .int .u64 (l1 bal : Nat), .int .u64 (l0 bal : Nat), .string (str (cs.take m))] 82 (0, 0)))
  clear C H13 h9
  have bx := H14.out.at (q := V2.heap.size) (o := .cells #[.int .u64 0, .int .u64 0, .int .u64 0, .int .u64 1] 61 (0, 0)) (List.mem_cons_of_mem _ (List.mem_cons_of_mem _ (List.mem_cons_of_mem _ (List.mem_cons_of_mem _ (List.mem_cons_self ..)))))
  obtain ⟨⟨c10_0, c10_1, c10_2, c10_3⟩, _⟩ := cells4 bx
  clear bx
  have C := Lib.hid (H14.out.slot HA.out (k := 1) (by decide))
  rw [HSL.out] at C
  rw [wordC_one] at C
  unfold wordC at C
  go_wp2_with fail
  refine C.out.mono ?_
  rintro e V15 ⟨rfl, h9⟩
  have H15 := Lib.hid (h9.alloc (.cells #[.int .u64 (l3 p : Nat), .int .u64 (l2 p : Nat), .int .u64 (l1 p : Nat), .int .u64 (l0 p : Nat)] 61 (0, 0)))
  clear C H14 h9
  clear c10_0 c10_1 c10_2 c10_3
  have bx := H15.out.at (q := V9.heap.size) (o := .cells #[.int .u64 0, .int .u64 0, .int .u64 0, .int .u64 0, .int .u64 0, .string ⟨#[]⟩] 82 (0, 0)) (List.mem_cons_of_mem _ (List.mem_cons_of_mem _ (List.mem_cons_of_mem _ (List.mem_cons_of_mem _ (List.mem_cons_self ..)))))
  obtain ⟨⟨c11_0, c11_1, c11_2, c11_3, c11_4, c11_5⟩, _⟩ := cells6 bx
  clear bx
  have bx := H15.out.at (q := V10.heap.size) (o := .cells #[.int .u64 0, .int .u64 0, .int .u64 0, .int .u64 0] 61 (0, 0)) (List.mem_cons_of_mem _ (List.mem_cons_of_mem _ (List.mem_cons_of_mem _ (List.mem_cons_self ..))))
  obtain ⟨⟨c12_0, c12_1, c12_2, c12_3⟩, _⟩ := cells4 bx
  clear bx
  have bx := H15.out.at (q := V12.heap.size) (o := .cells #[.int .u64 (l3 q : Nat), .int .u64 (l2 q : Nat), .int .u64 (l1 q : Nat), .int .u64 (l0 q : Nat)] 61 (0, 0)) (List.mem_cons_of_mem _ (List.mem_cons_of_mem _ (List.mem_cons_self ..)))
  obtain ⟨⟨c13_0, c13_1, c13_2, c13_3⟩, _⟩ := cells4 bx
  clear bx
  have bx := H15.out.at (q := W.heap.size + 1 + 1) (o := wordO q) (List.mem_cons_of_mem _ (List.mem_cons_of_mem _ (List.mem_cons_of_mem _ (List.mem_cons_of_mem _ (List.mem_cons_of_mem _ (List.mem_cons_of_mem _ (List.mem_cons_of_mem _ (List.mem_cons_of_mem _ (List.mem_cons_self ..)))))))))
  unfold wordO wordC at bx
  obtain ⟨⟨c14_0, c14_1, c14_2, c14_3⟩, _⟩ := cells4 bx
  clear bx
  have bx := H15.out.at (q := V14.heap.size) (o := .cells #[.int .u64 k, .int .u64 (l3 bal : Nat), .int .u64 (l2 bal : Nat), .int .u64 (l1 bal : Nat), .int .u64 (l0 bal : Nat), .string (str (cs.take m))] 82 (0, 0)) (List.mem_cons_of_mem _ (List.mem_cons_self ..))
  obtain ⟨⟨c15_0, c15_1, c15_2, c15_3, c15_4, c15_5⟩, _⟩ := cells6 bx
  clear bx
  have bx := H15.out.at (q := W.heap.size) (o := .cells #[.int .u64 k, .int .u64 (l3 bal : Nat), .int .u64 (l2 bal : Nat), .int .u64 (l1 bal : Nat), .int .u64 (l0 bal : Nat), .string (str (cs.take m))] 82 (0, 0)) (List.mem_cons_of_mem _ (List.mem_cons_of_mem _ (List.mem_cons_of_mem _ (List.mem_cons_of_mem _ (List.mem_cons_of_mem _ (List.mem_cons_of_mem _ (List.mem_cons_self ..)))))))
  obtain ⟨⟨c16_0, c16_1, c16_2, c16_3, c16_4, c16_5⟩, _⟩ := cells6 bx
  clear bx
  have bx := H15.out.at (q := V15.heap.size) (o := .cells #[.int .u64 (l3 p : Nat), .int .u64 (l2 p : Nat), .int .u64 (l1 p : Nat), .int .u64 (l0 p : Nat)] 61 (0, 0)) (List.mem_cons_self ..)
  obtain ⟨⟨c17_0, c17_1, c17_2, c17_3⟩, _⟩ := cells4 bx
  clear bx
  have bx := H15.out.at (q := W.heap.size + 1) (o := wordO p) (List.mem_cons_of_mem _ (List.mem_cons_of_mem _ (List.mem_cons_of_mem _ (List.mem_cons_of_mem _ (List.mem_cons_of_mem _ (List.mem_cons_of_mem _ (List.mem_cons_of_mem _ (List.mem_cons_self ..))))))))
  unfold wordO wordC at bx
  obtain ⟨⟨c18_0, c18_1, c18_2, c18_3⟩, _⟩ := cells4 bx
  clear bx
  have EA := eq_acc ⟨0, k, bal, cs.take m, 0⟩
  unfold accC at EA
  simp only at EA
  go_wp2_with fail
  go_ret
  exact ⟨rfl, H15.out.below⟩
theorem delA_c (k bal p q : Nat) (cs : ByteArray) (W : World) :
    Calls Tryz.prog 8 #[.agg #[.int .u64 k, .int .u64 (l3 bal : Nat), .int .u64 (l2 bal : Nat), .int .u64 (l1 bal : Nat), .int .u64 (l0 bal : Nat), .string cs], .agg #[.int .u64 (l3 p : Nat), .int .u64 (l2 p : Nat), .int .u64 (l1 p : Nat), .int .u64 (l0 p : Nat)], .agg #[.int .u64 (l3 q : Nat), .int .u64 (l2 q : Nat), .int .u64 (l1 q : Nat), .int .u64 (l0 q : Nat)]] W fun e W' => e = .returned (.bool true) ∧ Below W.heap.size W W' := by
  have h := del_c k bal p q cs.data.toList W
  rwa [str_of'] at h
end Go.Proofs.YtekoaheiapddiaaGreat.Dz.Wo
end
