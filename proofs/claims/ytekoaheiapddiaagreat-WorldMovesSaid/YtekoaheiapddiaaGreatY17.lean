/- Merged: Hz. -/
import Derived.Test.YtekoaheiapddiaaGreatY16
section
namespace Go.Proofs.YtekoaheiapddiaaGreat.Dz.Wo
open Go.RowKit Go.Maps Mp

def Wd.moved (w : Wd) (a c : Nm) (v : Nat) : Wd := if v = 0 ∨ a = c then w else (w.setAcc a ⟨(w.ac a).nonce, ((w.ac a).bal + W256 - v) % W256, (w.ac a).code⟩).setAcc c ⟨(w.ac c).nonce, ((w.ac c).bal + v) % W256, (w.ac c).code⟩
theorem Wd.moved_no {w : Wd} (h : w.far = .no) (a c : Nm) (v : Nat) : (w.moved a c v).far = .no := by
  unfold Wd.moved
  split
  · exact h
  · exact h
theorem Wd.move_no {w : Wd} (h : w.far = .no) {a c : Nm} (ha : a.length = 20) (hc : c.length = 20) (v : Nat) : w.move a c v = if (w.ac a).bal < v then (8, w) else (0, w.moved a c v) := by
  unfold Wd.move Wd.moved
  rw [if_neg (by omega), Wd.acct_no h ha]
  simp only [ne_eq, not_true_eq_false, if_false]
  rw [Wd.acct_no h hc]
  simp only [not_true_eq_false, if_false]
  by_cases h1 : (w.ac a).bal < v
  · rw [if_pos h1, if_pos h1]
  · rw [if_neg h1, if_neg h1]
    by_cases h2 : v = 0 ∨ a = c
    · rw [if_pos h2, if_pos h2]
    · rw [if_neg h2, if_neg h2]
theorem Wd.ac_other (w : Wd) {a c : Nm} (h : c ≠ a) (y : AccP) : (w.setAcc a y).ac c = w.ac c := by
  unfold Wd.ac Wd.setAcc Wd.set Wd.ent
  simp [upf_other _ _ h]
theorem St.move {w : Wd} {b n : Nat} {L : List (Nat × Obj)} {W V : World} (h : St w b n L W V) (hn : n < 900000) {a c : Nm} (ha : a.length = 20) (hc : c.length = 20) {v : Nat} (hv : v < W256) (h1 : (w.ac a).bal < W256) (h2 : (w.ac c).bal < W256) :
    Calls Tryz.prog 41 #[.pointer (some ⟨b, 0, none⟩), .string (str a), .string (str c), .agg (wordC v)] V fun e V' => e = .returned (.int .i64 (if (w.ac a).bal < v then 8 else 0)) ∧ St (if (w.ac a).bal < v then w else w.moved a c v) b (n + 4) L W V' := by
  obtain ⟨hf, x, ff, M⟩ := h
  have e1 := Wd.acct_no hf ha
  have e2 := Wd.acct_no hf hc
  refine (wMove_c M.ob.it (fz_no hf) hn a c hv (fz_no (by rw [e1]; exact hf)) (by rw [e1]; exact h1) (by rw [e1]; simp only; rw [e2]; exact h2)).mono ?_
  rintro e V1 ⟨rfl, h3⟩
  rw [Wd.move_no hf ha hc] at h3 ⊢
  by_cases hl : (w.ac a).bal < v
  · rw [if_pos hl] at h3 ⊢
    rw [if_pos hl, if_pos hl]
    exact ⟨rfl, St.lv M hf h3⟩
  · rw [if_neg hl] at h3 ⊢
    rw [if_neg hl, if_neg hl]
    exact ⟨rfl, St.lv M (Wd.moved_no hf a c v) h3⟩
theorem take_give {p v : Nat} (hp : p < W256) (h : v ≤ p) : ((p + W256 - v) % W256 + v) % W256 = p := by
  rw [show p + W256 - v = (p - v) + W256 by omega, Nat.add_mod_right, Nat.mod_eq_of_lt (a := p - v) (by omega), show p - v + v = p by omega, Nat.mod_eq_of_lt hp]
theorem give_take {q v : Nat} (hq : q < W256) (hv : v < W256) : ((q + v) % W256 + W256 - v) % W256 = q := by
  by_cases h : q + v < W256
  · rw [Nat.mod_eq_of_lt h, show q + v + W256 - v = q + W256 by omega, Nat.add_mod_right, Nat.mod_eq_of_lt hq]
  · rw [Nat.mod_eq_sub_mod (a := q + v) (by omega), Nat.mod_eq_of_lt (a := q + v - W256) (by omega), show q + v - W256 + W256 - v = q by omega, Nat.mod_eq_of_lt hq]
/-- The two accounts behind a move. -/
theorem Wd.two (p q v : Nat) {a c : Nm} (hac : a ≠ c) (hp : p < W256) (hq : q < W256) : ∃ w : Wd, w = ((Wd.new .no).setAcc a ⟨0, p, []⟩).setAcc c ⟨0, q, []⟩ ∧ w.far = .no ∧ w.ac a = ⟨0, p, []⟩ ∧ w.ac c = ⟨0, q, []⟩ ∧ (w.moved a c v).ac a = ⟨0, (p + W256 - v) % W256, []⟩ ∧ (w.moved a c v).ac c = ⟨0, (q + v) % W256, []⟩ := by
  have h1 : (((Wd.new .no).setAcc a ⟨0, p, []⟩).setAcc c ⟨0, q, []⟩).ac a = ⟨0, p, []⟩ := by rw [Wd.ac_other _ hac, Wd.ac_setAcc]
  have h2 : (((Wd.new .no).setAcc a ⟨0, p, []⟩).setAcc c ⟨0, q, []⟩).ac c = ⟨0, q, []⟩ := by rw [Wd.ac_setAcc]
  refine ⟨_, rfl, rfl, h1, h2, ?_⟩
  unfold Wd.moved
  by_cases h : v = 0 ∨ a = c
  · have hv : v = 0 := h.resolve_right hac
    rw [if_pos h, h1, h2, hv, Nat.sub_zero, Nat.add_zero, Nat.add_mod_right, Nat.mod_eq_of_lt hp, Nat.mod_eq_of_lt hq]
    exact ⟨rfl, rfl⟩
  · rw [if_neg h, h1, h2]
    exact ⟨by rw [Wd.ac_other _ hac, Wd.ac_setAcc], by rw [Wd.ac_setAcc]⟩
theorem acc0 (p : Nat) : accCells ⟨0, p, []⟩ = #[.int .u64 0, .int .u64 (l3 p : Nat), .int .u64 (l2 p : Nat), .int .u64 (l1 p : Nat), .int .u64 (l0 p : Nat), .string ⟨#[]⟩] := by simp [accCells, str]
set_option maxRecDepth 100000 in
set_option maxHeartbeats 32000000 in
theorem moves_c {p q v : Nat} (hp : p < W256) (hq : q < W256) (hv : v < W256) (W : World) :
    Calls Tryz.prog 7 #[.agg #[.int .u64 (l3 p : Nat), .int .u64 (l2 p : Nat), .int .u64 (l1 p : Nat), .int .u64 (l0 p : Nat)], .agg #[.int .u64 (l3 q : Nat), .int .u64 (l2 q : Nat), .int .u64 (l1 q : Nat), .int .u64 (l0 q : Nat)], .agg #[.int .u64 (l3 v : Nat), .int .u64 (l2 v : Nat), .int .u64 (l1 v : Nat), .int .u64 (l0 v : Nat)]] W fun e W' => e = .returned (.bool true) ∧ Below W.heap.size W W' := by
  have AD := Lib.hid (fun V => address_c 0 (by omega) V)
  rw [show ((0 : Nat) : Int) = 0 from rfl] at AD
  have AE := Lib.hid (fun V => address_c 1 (by omega) V)
  rw [show ((1 : Nat) : Int) = 1 from rfl] at AE
  have HAC := Lib.hid (show addrP 0 ≠ addrP 1 by unfold addrP; decide)
  have HA := Lib.hid (addr_len (n := 0) (by omega))
  have HE := Lib.hid (addr_len (n := 1) (by omega))
  generalize addrP 0 = a at AD HA HAC
  generalize addrP 1 = c at AE HE HAC
  obtain ⟨w2, hw2⟩ := Wd.two p q v HAC.out hp hq
  have HW2 := Lib.hid hw2
  have HP := Lib.hid (And.intro hp (And.intro hq hv))
  clear hw2 hp hq hv
  go_enter Tryz.func7, Tryz.ntmps7
  go_wp2_with fail
  refine (exam_c _).mono ?_
  rintro e V0 ⟨rfl, hb⟩
  have M1 := ((((An.start (ob0 W)).alloc (.cells #[.int .u64 (l3 p : Nat), .int .u64 (l2 p : Nat), .int .u64 (l1 p : Nat), .int .u64 (l0 p : Nat)] 61 (0, 0))).alloc (.cells #[.int .u64 (l3 q : Nat), .int .u64 (l2 q : Nat), .int .u64 (l1 q : Nat), .int .u64 (l0 q : Nat)] 61 (0, 0))).alloc (.cells #[.int .u64 (l3 v : Nat), .int .u64 (l2 v : Nat), .int .u64 (l1 v : Nat), .int .u64 (l0 v : Nat)] 61 (0, 0))).call hb
  rw [alloc_size, alloc_size] at M1
  have HN := Lib.hid (St.newA M1)
  clear M1 hb
  go_wp2_with fail
  refine HN.out.mono ?_
  rintro e V0' ⟨rfl, h9⟩
  obtain ⟨b, hb⟩ : ∃ b, b = V0.heap.size + 2 := ⟨_, rfl⟩
  rw [← hb] at h9 ⊢
  have H0 := Lib.hid h9
  clear HN h9 hb
  go_wp2_with fail
  have H1 := Lib.hid (H0.out.call (Below.refl _ _).drew)
  clear H0
  have S0 := And.intro (H1.out.at (q := W.heap.size) (o := .cells #[.int .u64 (l3 p : Nat), .int .u64 (l2 p : Nat), .int .u64 (l1 p : Nat), .int .u64 (l0 p : Nat)] 61 (0, 0)) (List.mem_cons_of_mem _ (List.mem_cons_of_mem _ (List.mem_cons_self ..)))) (H1.out.at (q := W.heap.size + 1) (o := .cells #[.int .u64 (l3 q : Nat), .int .u64 (l2 q : Nat), .int .u64 (l1 q : Nat), .int .u64 (l0 q : Nat)] 61 (0, 0)) (List.mem_cons_of_mem _ (List.mem_cons_self ..)))
  have HS := Lib.hid (fun (V : World) (hV : V.heap[W.heap.size]? = some (.cells #[.int .u64 (l3 p : Nat), .int .u64 (l2 p : Nat), .int .u64 (l1 p : Nat), .int .u64 (l0 p : Nat)] 61 (0, 0)) ∧ V.heap[W.heap.size + 1]? = some (.cells #[.int .u64 (l3 q : Nat), .int .u64 (l2 q : Nat), .int .u64 (l1 q : Nat), .int .u64 (l0 q : Nat)] 61 (0, 0))) => (show V.cell? ⟨W.heap.size, 0, none⟩ = some (.int .u64 (l3 p : Nat)) ∧ V.cell? ⟨W.heap.size, 1, none⟩ = some (.int .u64 (l2 p : Nat)) ∧ V.cell? ⟨W.heap.size, 2, none⟩ = some (.int .u64 (l1 p : Nat)) ∧ V.cell? ⟨W.heap.size, 3, none⟩ = some (.int .u64 (l0 p : Nat)) ∧ V.cell? ⟨W.heap.size + 1, 0, none⟩ = some (.int .u64 (l3 q : Nat)) ∧ V.cell? ⟨W.heap.size + 1, 1, none⟩ = some (.int .u64 (l2 q : Nat)) ∧ V.cell? ⟨W.heap.size + 1, 2, none⟩ = some (.int .u64 (l1 q : Nat)) ∧ V.cell? ⟨W.heap.size + 1, 3, none⟩ = some (.int .u64 (l0 q : Nat)) from ⟨cell_of hV.1 0, cell_of hV.1 1, cell_of hV.1 2, cell_of hV.1 3, cell_of hV.2 0, cell_of hV.2 1, cell_of hV.2 2, cell_of hV.2 3⟩))
  refine Drawn.start (fun V => V.heap[W.heap.size]? = some (.cells #[.int .u64 (l3 p : Nat), .int .u64 (l2 p : Nat), .int .u64 (l1 p : Nat), .int .u64 (l0 p : Nat)] 61 (0, 0)) ∧ V.heap[W.heap.size + 1]? = some (.cells #[.int .u64 (l3 q : Nat), .int .u64 (l2 q : Nat), .int .u64 (l1 q : Nat), .int .u64 (l0 q : Nat)] 61 (0, 0))) (fun _ => false) (by kernel_rfl) ?_
  generalize World.drew _ = V1 at H1 S0 ⊢
  refine Drawn.only 0 (by kernel_rfl) rfl rfl (fun K hK => ?_)
  try go_simp
  refine hK _ _ (fun _ _ => S0) ?_
  clear hK K
  try simp only [put_list, List.set]
  refine Drawn.only 1 (by kernel_rfl) rfl rfl (fun K hK => ?_)
  try go_simp
  refine hK _ _ (fun _ _ => S0) ?_
  clear hK K
  try simp only [put_list, List.set]
  refine Drawn.only 2 (by kernel_rfl) rfl rfl (fun K hK => ?_)
  try go_simp
  refine hK _ _ (fun _ _ => S0) ?_
  clear hK K
  try simp only [put_list, List.set]
  refine Drawn.take 3 (some 24) (v := ?_) rfl rfl (by kernel_rfl) (by kernel_rfl) (by kernel_rfl) (by kernel_rfl) (by kernel_rfl) rfl (fun _ _ _ h => h) (Or.inl ⟨rfl, ?_⟩) S0 ?_
  rotate_left
  · intro W hW; have hW := HS.out W hW; go_simp; try with_reducible rfl
  simp only [put_list, List.set]
  refine Drawn.take 5 (some 26) (v := ?_) rfl rfl (by kernel_rfl) (by kernel_rfl) (by kernel_rfl) (by kernel_rfl) (by kernel_rfl) rfl (fun _ _ _ h => h) (Or.inl ⟨rfl, ?_⟩) S0 ?_
  rotate_left
  · intro W hW; have hW := HS.out W hW; go_simp; try with_reducible rfl
  simp only [put_list, List.set]
  have C := Lib.hid (fun V => AD.out V)
  refine Drawn.only 4 (by kernel_rfl) rfl rfl (fun K hK => ?_)
  go_simp
  refine (C.out _).mono ?_
  rintro e V2 ⟨rfl, h9⟩
  have H2 := Lib.hid (H1.out.call h9)
  clear H1 h9
  clear S0
  have S0 := And.intro (H2.out.at (q := W.heap.size) (o := .cells #[.int .u64 (l3 p : Nat), .int .u64 (l2 p : Nat), .int .u64 (l1 p : Nat), .int .u64 (l0 p : Nat)] 61 (0, 0)) (List.mem_cons_of_mem _ (List.mem_cons_of_mem _ (List.mem_cons_self ..)))) (H2.out.at (q := W.heap.size + 1) (o := .cells #[.int .u64 (l3 q : Nat), .int .u64 (l2 q : Nat), .int .u64 (l1 q : Nat), .int .u64 (l0 q : Nat)] 61 (0, 0)) (List.mem_cons_of_mem _ (List.mem_cons_self ..)))
  refine hK _ _ (fun _ _ => S0) ?_
  clear hK K C
  try simp only [put_list, List.set]
  have C := Lib.hid (H2.out.balance (by omega) HA.out p)
  rw [Wd.ac_new] at C
  simp only [AccP.zero] at C
  unfold wordC at C
  refine Drawn.only 6 (by kernel_rfl) rfl rfl (fun K hK => ?_)
  go_simp
  refine C.out.mono ?_
  rintro e V3 ⟨rfl, h9⟩
  have H3 := Lib.hid h9
  clear H2 h9
  clear S0
  have S0 := And.intro (H3.out.at (q := W.heap.size) (o := .cells #[.int .u64 (l3 p : Nat), .int .u64 (l2 p : Nat), .int .u64 (l1 p : Nat), .int .u64 (l0 p : Nat)] 61 (0, 0)) (List.mem_cons_of_mem _ (List.mem_cons_of_mem _ (List.mem_cons_self ..)))) (H3.out.at (q := W.heap.size + 1) (o := .cells #[.int .u64 (l3 q : Nat), .int .u64 (l2 q : Nat), .int .u64 (l1 q : Nat), .int .u64 (l0 q : Nat)] 61 (0, 0)) (List.mem_cons_of_mem _ (List.mem_cons_self ..)))
  refine hK _ _ (fun _ _ => S0) ?_
  clear hK K C
  try simp only [put_list, List.set]
  refine Drawn.only 7 (by kernel_rfl) rfl rfl (fun K hK => ?_)
  try go_simp
  refine hK _ _ (fun _ _ => S0) ?_
  clear hK K
  try simp only [put_list, List.set]
  refine Drawn.only 8 (by kernel_rfl) rfl rfl (fun K hK => ?_)
  try go_simp
  refine hK _ _ (fun _ _ => S0) ?_
  clear hK K
  try simp only [put_list, List.set]
  refine Drawn.only 9 (by kernel_rfl) rfl rfl (fun K hK => ?_)
  try go_simp
  refine hK _ _ (fun _ _ => S0) ?_
  clear hK K
  try simp only [put_list, List.set]
  refine Drawn.take 10 (some 31) (v := ?_) rfl rfl (by kernel_rfl) (by kernel_rfl) (by kernel_rfl) (by kernel_rfl) (by kernel_rfl) rfl (fun _ _ _ h => h) (Or.inl ⟨rfl, ?_⟩) S0 ?_
  rotate_left
  · intro W hW; have hW := HS.out W hW; go_simp; try with_reducible rfl
  simp only [put_list, List.set]
  refine Drawn.take 12 (some 33) (v := ?_) rfl rfl (by kernel_rfl) (by kernel_rfl) (by kernel_rfl) (by kernel_rfl) (by kernel_rfl) rfl (fun _ _ _ h => h) (Or.inl ⟨rfl, ?_⟩) S0 ?_
  rotate_left
  · intro W hW; have hW := HS.out W hW; go_simp; try with_reducible rfl
  simp only [put_list, List.set]
  have C := Lib.hid (fun V => AE.out V)
  refine Drawn.only 11 (by kernel_rfl) rfl rfl (fun K hK => ?_)
  go_simp
  refine (C.out _).mono ?_
  rintro e V4 ⟨rfl, h9⟩
  have H4 := Lib.hid (H3.out.call h9)
  clear H3 h9
  clear S0
  have S0 := And.intro (H4.out.at (q := W.heap.size) (o := .cells #[.int .u64 (l3 p : Nat), .int .u64 (l2 p : Nat), .int .u64 (l1 p : Nat), .int .u64 (l0 p : Nat)] 61 (0, 0)) (List.mem_cons_of_mem _ (List.mem_cons_of_mem _ (List.mem_cons_self ..)))) (H4.out.at (q := W.heap.size + 1) (o := .cells #[.int .u64 (l3 q : Nat), .int .u64 (l2 q : Nat), .int .u64 (l1 q : Nat), .int .u64 (l0 q : Nat)] 61 (0, 0)) (List.mem_cons_of_mem _ (List.mem_cons_self ..)))
  refine hK _ _ (fun _ _ => S0) ?_
  clear hK K C
  try simp only [put_list, List.set]
  have C := Lib.hid (H4.out.balance (by omega) HE.out q)
  rw [Wd.ac_other _ (Ne.symm HAC.out), Wd.ac_new] at C
  simp only [AccP.zero] at C
  unfold wordC at C
  refine Drawn.only 13 (by kernel_rfl) rfl rfl (fun K hK => ?_)
  go_simp
  refine C.out.mono ?_
  rintro e V5 ⟨rfl, h9⟩
  have H5 := Lib.hid h9
  clear H4 h9
  clear S0
  have S0 := And.intro (H5.out.at (q := W.heap.size) (o := .cells #[.int .u64 (l3 p : Nat), .int .u64 (l2 p : Nat), .int .u64 (l1 p : Nat), .int .u64 (l0 p : Nat)] 61 (0, 0)) (List.mem_cons_of_mem _ (List.mem_cons_of_mem _ (List.mem_cons_self ..)))) (H5.out.at (q := W.heap.size + 1) (o := .cells #[.int .u64 (l3 q : Nat), .int .u64 (l2 q : Nat), .int .u64 (l1 q : Nat), .int .u64 (l0 q : Nat)] 61 (0, 0)) (List.mem_cons_of_mem _ (List.mem_cons_self ..)))
  refine hK _ _ (fun _ _ => S0) ?_
  clear hK K C
  try simp only [put_list, List.set]
  refine Drawn.only 14 (by kernel_rfl) rfl rfl (fun K hK => ?_)
  try go_simp
  refine hK _ _ (fun _ _ => S0) ?_
  clear hK K
  try simp only [put_list, List.set]
  refine Drawn.only 15 (by kernel_rfl) rfl rfl (fun K hK => ?_)
  try go_simp
  refine hK _ _ (fun _ _ => S0) ?_
  clear hK K
  try simp only [put_list, List.set]
  clear HS S0
  refine Drawn.done (by kernel_rfl) ?_ _
  rw [← HW2.out.1] at H5
  by_cases hl : p < v
  · have HL := Lib.hid hl
    clear hl
    go_wp2_with fail
    have H6 := Lib.hid (H5.out.call (Below.refl _ _).drew)
    clear H5
    have S0 := H6.out.at (q := W.heap.size + 1 + 1) (o := .cells #[.int .u64 (l3 v : Nat), .int .u64 (l2 v : Nat), .int .u64 (l1 v : Nat), .int .u64 (l0 v : Nat)] 61 (0, 0)) (List.mem_cons_self ..)
    have HS := Lib.hid (fun (V : World) (hV : V.heap[W.heap.size + 1 + 1]? = some (.cells #[.int .u64 (l3 v : Nat), .int .u64 (l2 v : Nat), .int .u64 (l1 v : Nat), .int .u64 (l0 v : Nat)] 61 (0, 0))) => (show V.cell? ⟨W.heap.size + 1 + 1, 0, none⟩ = some (.int .u64 (l3 v : Nat)) ∧ V.cell? ⟨W.heap.size + 1 + 1, 1, none⟩ = some (.int .u64 (l2 v : Nat)) ∧ V.cell? ⟨W.heap.size + 1 + 1, 2, none⟩ = some (.int .u64 (l1 v : Nat)) ∧ V.cell? ⟨W.heap.size + 1 + 1, 3, none⟩ = some (.int .u64 (l0 v : Nat)) from ⟨cell_of hV 0, cell_of hV 1, cell_of hV 2, cell_of hV 3⟩))
    refine Drawn.start (fun V => V.heap[W.heap.size + 1 + 1]? = some (.cells #[.int .u64 (l3 v : Nat), .int .u64 (l2 v : Nat), .int .u64 (l1 v : Nat), .int .u64 (l0 v : Nat)] 61 (0, 0))) (fun _ => false) (by kernel_rfl) ?_
    generalize World.drew _ = V6 at H6 S0 ⊢
    refine Drawn.take 0 (some 37) (v := ?_) rfl rfl (by kernel_rfl) (by kernel_rfl) (by kernel_rfl) (by kernel_rfl) (by kernel_rfl) rfl (fun _ _ _ h => h) (Or.inl ⟨rfl, ?_⟩) S0 ?_
    rotate_left
    · intro W hW; have hW := HS.out W hW; go_simp; try with_reducible rfl
    simp only [put_list, List.set]
    refine Drawn.take 3 (some 40) (v := ?_) rfl rfl (by kernel_rfl) (by kernel_rfl) (by kernel_rfl) (by kernel_rfl) (by kernel_rfl) rfl (fun _ _ _ h => h) (Or.inl ⟨rfl, ?_⟩) S0 ?_
    rotate_left
    · intro W hW; have hW := HS.out W hW; go_simp; try with_reducible rfl
    simp only [put_list, List.set]
    have C := Lib.hid (fun V => AD.out V)
    refine Drawn.only 1 (by kernel_rfl) rfl rfl (fun K hK => ?_)
    go_simp
    refine (C.out _).mono ?_
    rintro e V7 ⟨rfl, h9⟩
    have H7 := Lib.hid (H6.out.call h9)
    clear H6 h9
    clear S0
    have S0 := H7.out.at (q := W.heap.size + 1 + 1) (o := .cells #[.int .u64 (l3 v : Nat), .int .u64 (l2 v : Nat), .int .u64 (l1 v : Nat), .int .u64 (l0 v : Nat)] 61 (0, 0)) (List.mem_cons_self ..)
    refine hK _ _ (fun _ _ => S0) ?_
    clear hK K C
    try simp only [put_list, List.set]
    have C := Lib.hid (fun V => AE.out V)
    refine Drawn.only 2 (by kernel_rfl) rfl rfl (fun K hK => ?_)
    go_simp
    refine (C.out _).mono ?_
    rintro e V8 ⟨rfl, h9⟩
    have H8 := Lib.hid (H7.out.call h9)
    clear H7 h9
    clear S0
    have S0 := H8.out.at (q := W.heap.size + 1 + 1) (o := .cells #[.int .u64 (l3 v : Nat), .int .u64 (l2 v : Nat), .int .u64 (l1 v : Nat), .int .u64 (l0 v : Nat)] 61 (0, 0)) (List.mem_cons_self ..)
    refine hK _ _ (fun _ _ => S0) ?_
    clear hK K C
    try simp only [put_list, List.set]
    have C := Lib.hid (H8.out.move (by omega) HA.out HE.out HP.out.2.2 (by rw [HW2.out.2.2.1]; exact HP.out.1) (by rw [HW2.out.2.2.2.1]; exact HP.out.2.1))
    rw [HW2.out.2.2.1] at C
    simp only [HL.out, if_true] at C
    unfold wordC at C
    refine Drawn.only 4 (by kernel_rfl) rfl rfl (fun K hK => ?_)
    go_simp
    refine C.out.mono ?_
    rintro e V9 ⟨rfl, h9⟩
    have H9 := Lib.hid h9
    clear H8 h9
    clear S0
    have S0 := H9.out.at (q := W.heap.size + 1 + 1) (o := .cells #[.int .u64 (l3 v : Nat), .int .u64 (l2 v : Nat), .int .u64 (l1 v : Nat), .int .u64 (l0 v : Nat)] 61 (0, 0)) (List.mem_cons_self ..)
    refine hK _ _ (fun _ _ => S0) ?_
    clear hK K C
    try simp only [put_list, List.set]
    refine Drawn.only 5 (by kernel_rfl) rfl rfl (fun K hK => ?_)
    try go_simp
    refine hK _ _ (fun _ _ => S0) ?_
    clear hK K
    try simp only [put_list, List.set]
    clear HS S0
    refine Drawn.done (by kernel_rfl) ?_ _
    go_wp2_with fail
    refine (AD.out _).mono ?_
    rintro e V10 ⟨rfl, h9⟩
    have H10 := Lib.hid (H9.out.call h9)
    clear H9 h9
    have C := Lib.hid (H10.out.acct HA.out)
    rw [HW2.out.2.2.1, acc0] at C
    go_wp2_with fail
    refine C.out.mono ?_
    rintro e V11 ⟨rfl, h9⟩
    have H11 := Lib.hid (h9.alloc (.cells #[.int .u64 0, .int .u64 (l3 p : Nat), .int .u64 (l2 p : Nat), .int .u64 (l1 p : Nat), .int .u64 (l0 p : Nat), .string ⟨#[]⟩] 82 (0, 0)))
    clear H10 h9
    clear C
    go_wp2_with fail
    refine (AE.out _).mono ?_
    rintro e V12 ⟨rfl, h9⟩
    have H12 := Lib.hid (H11.out.call h9)
    clear H11 h9
    have C := Lib.hid (H12.out.acct HE.out)
    rw [HW2.out.2.2.2.1, acc0] at C
    go_wp2_with fail
    refine C.out.mono ?_
    rintro e V13 ⟨rfl, h9⟩
    have H13 := Lib.hid (h9.alloc (.cells #[.int .u64 0, .int .u64 (l3 q : Nat), .int .u64 (l2 q : Nat), .int .u64 (l1 q : Nat), .int .u64 (l0 q : Nat), .string ⟨#[]⟩] 82 (0, 0)))
    clear H12 h9
    clear C
    obtain ⟨⟨c1_0, c1_1, c1_2, c1_3⟩, _⟩ := cells4 (H13.out.at (q := W.heap.size) (o := .cells #[.int .u64 (l3 p : Nat), .int .u64 (l2 p : Nat), .int .u64 (l1 p : Nat), .int .u64 (l0 p : Nat)] 61 (0, 0)) (List.mem_cons_of_mem _ (List.mem_cons_of_mem _ (List.mem_cons_of_mem _ (List.mem_cons_of_mem _ (List.mem_cons_self ..))))))
    obtain ⟨⟨c2_0, c2_1, c2_2, c2_3⟩, _⟩ := cells4 (H13.out.at (q := W.heap.size + 1 + 1) (o := .cells #[.int .u64 (l3 v : Nat), .int .u64 (l2 v : Nat), .int .u64 (l1 v : Nat), .int .u64 (l0 v : Nat)] 61 (0, 0)) (List.mem_cons_of_mem _ (List.mem_cons_of_mem _ (List.mem_cons_self ..))))
    have C := Lib.hid (fun V => wLess HP.out.1 HP.out.2.2 V)
    simp only [HL.out, decide_true] at C
    unfold wordC at C
    go_wp2_with fail
    refine (C.out _).mono ?_
    rintro e V14 ⟨rfl, h9⟩
    have H14 := Lib.hid (H13.out.call h9)
    clear H13 h9
    clear C
    clear c1_0 c1_1 c1_2 c1_3 c2_0 c2_1 c2_2 c2_3
    obtain ⟨⟨c3_0, c3_1, c3_2, c3_3, c3_4, c3_5⟩, _⟩ := cells6 (H14.out.at (q := V11.heap.size) (o := .cells #[.int .u64 0, .int .u64 (l3 p : Nat), .int .u64 (l2 p : Nat), .int .u64 (l1 p : Nat), .int .u64 (l0 p : Nat), .string ⟨#[]⟩] 82 (0, 0)) (List.mem_cons_of_mem _ (List.mem_cons_self ..)))
    obtain ⟨⟨c4_0, c4_1, c4_2, c4_3⟩, _⟩ := cells4 (H14.out.at (q := W.heap.size) (o := .cells #[.int .u64 (l3 p : Nat), .int .u64 (l2 p : Nat), .int .u64 (l1 p : Nat), .int .u64 (l0 p : Nat)] 61 (0, 0)) (List.mem_cons_of_mem _ (List.mem_cons_of_mem _ (List.mem_cons_of_mem _ (List.mem_cons_of_mem _ (List.mem_cons_self ..))))))
    obtain ⟨⟨c5_0, c5_1, c5_2, c5_3, c5_4, c5_5⟩, _⟩ := cells6 (H14.out.at (q := V13.heap.size) (o := .cells #[.int .u64 0, .int .u64 (l3 q : Nat), .int .u64 (l2 q : Nat), .int .u64 (l1 q : Nat), .int .u64 (l0 q : Nat), .string ⟨#[]⟩] 82 (0, 0)) (List.mem_cons_self ..))
    obtain ⟨⟨c6_0, c6_1, c6_2, c6_3⟩, _⟩ := cells4 (H14.out.at (q := W.heap.size + 1) (o := .cells #[.int .u64 (l3 q : Nat), .int .u64 (l2 q : Nat), .int .u64 (l1 q : Nat), .int .u64 (l0 q : Nat)] 61 (0, 0)) (List.mem_cons_of_mem _ (List.mem_cons_of_mem _ (List.mem_cons_of_mem _ (List.mem_cons_self ..)))))
    go_wp2_with fail
    go_ret
    exact ⟨rfl, H14.out.below⟩
  · have HL := Lib.hid hl
    have hY : (w2.moved a c v).ac c = ⟨0, (q + v) % W256, []⟩ ∧ (q + v) % W256 < W256 := ⟨HW2.out.2.2.2.2.2, Nat.mod_lt _ (by unfold W256; decide)⟩
    have hAdd := fun V => wAdd (x := (p + W256 - v) % W256) (Nat.mod_lt _ (by unfold W256; decide)) HP.out.2.2 V
    rw [take_give HP.out.1 (Nat.le_of_not_lt hl)] at hAdd
    have hSub := fun V => wSub (x := (q + v) % W256) (Nat.mod_lt _ (by unfold W256; decide)) HP.out.2.2 V
    rw [give_take HP.out.2.1 HP.out.2.2] at hSub
    have HAdd := Lib.hid hAdd
    have HSub := Lib.hid hSub
    clear hAdd hSub hl
    generalize (p + W256 - v) % W256 = x9 at HW2 HAdd
    generalize (q + v) % W256 = y9 at HW2 hY HSub
    obtain ⟨w3, hw3⟩ : ∃ w3, w3 = w2.moved a c v := ⟨_, rfl⟩
    rw [← hw3] at HW2 hY
    have HF3 := Lib.hid hw3
    clear hw3
    have HY := Lib.hid hY
    clear hY
    go_wp2_with fail
    have H6 := Lib.hid (H5.out.call (Below.refl _ _).drew)
    clear H5
    have S0 := H6.out.at (q := W.heap.size + 1 + 1) (o := .cells #[.int .u64 (l3 v : Nat), .int .u64 (l2 v : Nat), .int .u64 (l1 v : Nat), .int .u64 (l0 v : Nat)] 61 (0, 0)) (List.mem_cons_self ..)
    have HS := Lib.hid (fun (V : World) (hV : V.heap[W.heap.size + 1 + 1]? = some (.cells #[.int .u64 (l3 v : Nat), .int .u64 (l2 v : Nat), .int .u64 (l1 v : Nat), .int .u64 (l0 v : Nat)] 61 (0, 0))) => (show V.cell? ⟨W.heap.size + 1 + 1, 0, none⟩ = some (.int .u64 (l3 v : Nat)) ∧ V.cell? ⟨W.heap.size + 1 + 1, 1, none⟩ = some (.int .u64 (l2 v : Nat)) ∧ V.cell? ⟨W.heap.size + 1 + 1, 2, none⟩ = some (.int .u64 (l1 v : Nat)) ∧ V.cell? ⟨W.heap.size + 1 + 1, 3, none⟩ = some (.int .u64 (l0 v : Nat)) from ⟨cell_of hV 0, cell_of hV 1, cell_of hV 2, cell_of hV 3⟩))
    refine Drawn.start (fun V => V.heap[W.heap.size + 1 + 1]? = some (.cells #[.int .u64 (l3 v : Nat), .int .u64 (l2 v : Nat), .int .u64 (l1 v : Nat), .int .u64 (l0 v : Nat)] 61 (0, 0))) (fun _ => false) (by kernel_rfl) ?_
    generalize World.drew _ = V6 at H6 S0 ⊢
    refine Drawn.take 0 (some 37) (v := ?_) rfl rfl (by kernel_rfl) (by kernel_rfl) (by kernel_rfl) (by kernel_rfl) (by kernel_rfl) rfl (fun _ _ _ h => h) (Or.inl ⟨rfl, ?_⟩) S0 ?_
    rotate_left
    · intro W hW; have hW := HS.out W hW; go_simp; try with_reducible rfl
    simp only [put_list, List.set]
    refine Drawn.take 3 (some 40) (v := ?_) rfl rfl (by kernel_rfl) (by kernel_rfl) (by kernel_rfl) (by kernel_rfl) (by kernel_rfl) rfl (fun _ _ _ h => h) (Or.inl ⟨rfl, ?_⟩) S0 ?_
    rotate_left
    · intro W hW; have hW := HS.out W hW; go_simp; try with_reducible rfl
    simp only [put_list, List.set]
    have C := Lib.hid (fun V => AD.out V)
    refine Drawn.only 1 (by kernel_rfl) rfl rfl (fun K hK => ?_)
    go_simp
    refine (C.out _).mono ?_
    rintro e V7 ⟨rfl, h9⟩
    have H7 := Lib.hid (H6.out.call h9)
    clear H6 h9
    clear S0
    have S0 := H7.out.at (q := W.heap.size + 1 + 1) (o := .cells #[.int .u64 (l3 v : Nat), .int .u64 (l2 v : Nat), .int .u64 (l1 v : Nat), .int .u64 (l0 v : Nat)] 61 (0, 0)) (List.mem_cons_self ..)
    refine hK _ _ (fun _ _ => S0) ?_
    clear hK K C
    try simp only [put_list, List.set]
    have C := Lib.hid (fun V => AE.out V)
    refine Drawn.only 2 (by kernel_rfl) rfl rfl (fun K hK => ?_)
    go_simp
    refine (C.out _).mono ?_
    rintro e V8 ⟨rfl, h9⟩
    have H8 := Lib.hid (H7.out.call h9)
    clear H7 h9
    clear S0
    have S0 := H8.out.at (q := W.heap.size + 1 + 1) (o := .cells #[.int .u64 (l3 v : Nat), .int .u64 (l2 v : Nat), .int .u64 (l1 v : Nat), .int .u64 (l0 v : Nat)] 61 (0, 0)) (List.mem_cons_self ..)
    refine hK _ _ (fun _ _ => S0) ?_
    clear hK K C
    try simp only [put_list, List.set]
    have C := Lib.hid (H8.out.move (by omega) HA.out HE.out HP.out.2.2 (by rw [HW2.out.2.2.1]; exact HP.out.1) (by rw [HW2.out.2.2.2.1]; exact HP.out.2.1))
    rw [HW2.out.2.2.1] at C
    simp only [HL.out, if_false] at C
    rw [← HF3.out] at C
    unfold wordC at C
    refine Drawn.only 4 (by kernel_rfl) rfl rfl (fun K hK => ?_)
    go_simp
    refine C.out.mono ?_
    rintro e V9 ⟨rfl, h9⟩
    have H9 := Lib.hid h9
    clear H8 h9
    clear S0
    have S0 := H9.out.at (q := W.heap.size + 1 + 1) (o := .cells #[.int .u64 (l3 v : Nat), .int .u64 (l2 v : Nat), .int .u64 (l1 v : Nat), .int .u64 (l0 v : Nat)] 61 (0, 0)) (List.mem_cons_self ..)
    refine hK _ _ (fun _ _ => S0) ?_
    clear hK K C
    try simp only [put_list, List.set]
    refine Drawn.only 5 (by kernel_rfl) rfl rfl (fun K hK => ?_)
    try go_simp
    refine hK _ _ (fun _ _ => S0) ?_
    clear hK K
    try simp only [put_list, List.set]
    clear HS S0
    refine Drawn.done (by kernel_rfl) ?_ _
    go_wp2_with fail
    refine (AD.out _).mono ?_
    rintro e V10 ⟨rfl, h9⟩
    have H10 := Lib.hid (H9.out.call h9)
    clear H9 h9
    have C := Lib.hid (H10.out.acct HA.out)
    rw [HW2.out.2.2.2.2.1, acc0] at C
    go_wp2_with fail
    refine C.out.mono ?_
    rintro e V11 ⟨rfl, h9⟩
    have H11 := Lib.hid (h9.alloc (.cells #[.int .u64 0, .int .u64 (l3 x9 : Nat), .int .u64 (l2 x9 : Nat), .int .u64 (l1 x9 : Nat), .int .u64 (l0 x9 : Nat), .string ⟨#[]⟩] 82 (0, 0)))
    clear H10 h9
    clear C
    go_wp2_with fail
    refine (AE.out _).mono ?_
    rintro e V12 ⟨rfl, h9⟩
    have H12 := Lib.hid (H11.out.call h9)
    clear H11 h9
    have C := Lib.hid (H12.out.acct HE.out)
    rw [HW2.out.2.2.2.2.2, acc0] at C
    go_wp2_with fail
    refine C.out.mono ?_
    rintro e V13 ⟨rfl, h9⟩
    have H13 := Lib.hid (h9.alloc (.cells #[.int .u64 0, .int .u64 (l3 y9 : Nat), .int .u64 (l2 y9 : Nat), .int .u64 (l1 y9 : Nat), .int .u64 (l0 y9 : Nat), .string ⟨#[]⟩] 82 (0, 0)))
    clear H12 h9
    clear C
    obtain ⟨⟨c1_0, c1_1, c1_2, c1_3⟩, _⟩ := cells4 (H13.out.at (q := W.heap.size) (o := .cells #[.int .u64 (l3 p : Nat), .int .u64 (l2 p : Nat), .int .u64 (l1 p : Nat), .int .u64 (l0 p : Nat)] 61 (0, 0)) (List.mem_cons_of_mem _ (List.mem_cons_of_mem _ (List.mem_cons_of_mem _ (List.mem_cons_of_mem _ (List.mem_cons_self ..))))))
    obtain ⟨⟨c2_0, c2_1, c2_2, c2_3⟩, _⟩ := cells4 (H13.out.at (q := W.heap.size + 1 + 1) (o := .cells #[.int .u64 (l3 v : Nat), .int .u64 (l2 v : Nat), .int .u64 (l1 v : Nat), .int .u64 (l0 v : Nat)] 61 (0, 0)) (List.mem_cons_of_mem _ (List.mem_cons_of_mem _ (List.mem_cons_self ..))))
    have C := Lib.hid (fun V => wLess HP.out.1 HP.out.2.2 V)
    simp only [HL.out, decide_false] at C
    unfold wordC at C
    go_wp2_with fail
    refine (C.out _).mono ?_
    rintro e V14 ⟨rfl, h9⟩
    have H14 := Lib.hid (H13.out.call h9)
    clear H13 h9
    clear C
    clear c1_0 c1_1 c1_2 c1_3 c2_0 c2_1 c2_2 c2_3
    go_wp2_with fail
    have H15 := Lib.hid (H14.out.call (Below.refl _ _).drew)
    clear H14
    have S0 := H15.out.at (q := V13.heap.size) (o := .cells #[.int .u64 0, .int .u64 (l3 y9 : Nat), .int .u64 (l2 y9 : Nat), .int .u64 (l1 y9 : Nat), .int .u64 (l0 y9 : Nat), .string ⟨#[]⟩] 82 (0, 0)) (List.mem_cons_self ..)
    have HS := Lib.hid (fun (V : World) (hV : V.heap[V13.heap.size]? = some (.cells #[.int .u64 0, .int .u64 (l3 y9 : Nat), .int .u64 (l2 y9 : Nat), .int .u64 (l1 y9 : Nat), .int .u64 (l0 y9 : Nat), .string ⟨#[]⟩] 82 (0, 0))) => (show V.cell? ⟨V13.heap.size, 0, none⟩ = some (.int .u64 0) ∧ V.cell? ⟨V13.heap.size, 1, none⟩ = some (.int .u64 (l3 y9 : Nat)) ∧ V.cell? ⟨V13.heap.size, 2, none⟩ = some (.int .u64 (l2 y9 : Nat)) ∧ V.cell? ⟨V13.heap.size, 3, none⟩ = some (.int .u64 (l1 y9 : Nat)) ∧ V.cell? ⟨V13.heap.size, 4, none⟩ = some (.int .u64 (l0 y9 : Nat)) ∧ V.cell? ⟨V13.heap.size, 5, none⟩ = some (.string ⟨#[]⟩) from ⟨cell_of hV 0, cell_of hV 1, cell_of hV 2, cell_of hV 3, cell_of hV 4, cell_of hV 5⟩))
    refine Drawn.start (fun V => V.heap[V13.heap.size]? = some (.cells #[.int .u64 0, .int .u64 (l3 y9 : Nat), .int .u64 (l2 y9 : Nat), .int .u64 (l1 y9 : Nat), .int .u64 (l0 y9 : Nat), .string ⟨#[]⟩] 82 (0, 0))) (fun _ => false) (by kernel_rfl) ?_
    generalize World.drew _ = V15 at H15 S0 ⊢
    refine Drawn.take 0 (some 74) (v := ?_) rfl rfl (by kernel_rfl) (by kernel_rfl) (by kernel_rfl) (by kernel_rfl) (by kernel_rfl) rfl (fun _ _ _ h => h) (Or.inl ⟨rfl, ?_⟩) S0 ?_
    rotate_left
    · intro W hW; have hW := HS.out W hW; go_simp; try with_reducible rfl
    simp only [put_list, List.set]
    refine Drawn.take 3 (some 77) (v := ?_) rfl rfl (by kernel_rfl) (by kernel_rfl) (by kernel_rfl) (by kernel_rfl) (by kernel_rfl) rfl (fun _ _ _ h => h) (Or.inl ⟨rfl, ?_⟩) S0 ?_
    rotate_left
    · intro W hW; have hW := HS.out W hW; go_simp; try with_reducible rfl
    simp only [put_list, List.set]
    refine Drawn.take 4 (some 78) (v := ?_) rfl rfl (by kernel_rfl) (by kernel_rfl) (by kernel_rfl) (by kernel_rfl) (by kernel_rfl) rfl (fun _ _ _ h => h) (Or.inl ⟨rfl, ?_⟩) S0 ?_
    rotate_left
    · intro W hW; have hW := HS.out W hW; go_simp; try with_reducible rfl
    simp only [put_list, List.set]
    have C := Lib.hid (fun V => AE.out V)
    refine Drawn.only 1 (by kernel_rfl) rfl rfl (fun K hK => ?_)
    go_simp
    refine (C.out _).mono ?_
    rintro e V16 ⟨rfl, h9⟩
    have H16 := Lib.hid (H15.out.call h9)
    clear H15 h9
    clear S0
    have S0 := H16.out.at (q := V13.heap.size) (o := .cells #[.int .u64 0, .int .u64 (l3 y9 : Nat), .int .u64 (l2 y9 : Nat), .int .u64 (l1 y9 : Nat), .int .u64 (l0 y9 : Nat), .string ⟨#[]⟩] 82 (0, 0)) (List.mem_cons_self ..)
    refine hK _ _ (fun _ _ => S0) ?_
    clear hK K C
    try simp only [put_list, List.set]
    have C := Lib.hid (fun V => AE.out V)
    refine Drawn.only 2 (by kernel_rfl) rfl rfl (fun K hK => ?_)
    go_simp
    refine (C.out _).mono ?_
    rintro e V17 ⟨rfl, h9⟩
    have H17 := Lib.hid (H16.out.call h9)
    clear H16 h9
    clear S0
    have S0 := H17.out.at (q := V13.heap.size) (o := .cells #[.int .u64 0, .int .u64 (l3 y9 : Nat), .int .u64 (l2 y9 : Nat), .int .u64 (l1 y9 : Nat), .int .u64 (l0 y9 : Nat), .string ⟨#[]⟩] 82 (0, 0)) (List.mem_cons_self ..)
    refine hK _ _ (fun _ _ => S0) ?_
    clear hK K C
    try simp only [put_list, List.set]
    have C := Lib.hid (H17.out.move (by omega) HE.out HE.out (v := y9) HY.out.2 (by rw [HY.out.1]; exact HY.out.2) (by rw [HY.out.1]; exact HY.out.2))
    rw [HY.out.1] at C
    simp only [Nat.lt_irrefl, if_false] at C
    rw [show w3.moved c c y9 = w3 from if_pos (Or.inr rfl)] at C
    unfold wordC at C
    refine Drawn.only 5 (by kernel_rfl) rfl rfl (fun K hK => ?_)
    go_simp
    refine C.out.mono ?_
    rintro e V18 ⟨rfl, h9⟩
    have H18 := Lib.hid h9
    clear H17 h9
    clear S0
    have S0 := H18.out.at (q := V13.heap.size) (o := .cells #[.int .u64 0, .int .u64 (l3 y9 : Nat), .int .u64 (l2 y9 : Nat), .int .u64 (l1 y9 : Nat), .int .u64 (l0 y9 : Nat), .string ⟨#[]⟩] 82 (0, 0)) (List.mem_cons_self ..)
    refine hK _ _ (fun _ _ => S0) ?_
    clear hK K C
    try simp only [put_list, List.set]
    refine Drawn.only 6 (by kernel_rfl) rfl rfl (fun K hK => ?_)
    try go_simp
    refine hK _ _ (fun _ _ => S0) ?_
    clear hK K
    try simp only [put_list, List.set]
    clear HS S0
    refine Drawn.done (by kernel_rfl) ?_ _
    go_wp2_with fail
    refine (AE.out _).mono ?_
    rintro e V19 ⟨rfl, h9⟩
    have H19 := Lib.hid (H18.out.call h9)
    clear H18 h9
    have C := Lib.hid (H19.out.acct HE.out)
    rw [HY.out.1, acc0] at C
    go_wp2_with fail
    refine C.out.mono ?_
    rintro e V20 ⟨rfl, h9⟩
    have H20 := Lib.hid (h9.alloc (.cells #[.int .u64 0, .int .u64 (l3 y9 : Nat), .int .u64 (l2 y9 : Nat), .int .u64 (l1 y9 : Nat), .int .u64 (l0 y9 : Nat), .string ⟨#[]⟩] 82 (0, 0)))
    clear H19 h9
    clear C
    go_wp2_with fail
    have H21 := Lib.hid (H20.out.call (Below.refl _ _).drew)
    clear H20
    have S0 := And.intro (H21.out.at (q := V11.heap.size) (o := .cells #[.int .u64 0, .int .u64 (l3 x9 : Nat), .int .u64 (l2 x9 : Nat), .int .u64 (l1 x9 : Nat), .int .u64 (l0 x9 : Nat), .string ⟨#[]⟩] 82 (0, 0)) (List.mem_cons_of_mem _ (List.mem_cons_of_mem _ (List.mem_cons_self ..)))) (And.intro (H21.out.at (q := W.heap.size + 1 + 1) (o := .cells #[.int .u64 (l3 v : Nat), .int .u64 (l2 v : Nat), .int .u64 (l1 v : Nat), .int .u64 (l0 v : Nat)] 61 (0, 0)) (List.mem_cons_of_mem _ (List.mem_cons_of_mem _ (List.mem_cons_of_mem _ (List.mem_cons_self ..))))) (And.intro (H21.out.at (q := W.heap.size) (o := .cells #[.int .u64 (l3 p : Nat), .int .u64 (l2 p : Nat), .int .u64 (l1 p : Nat), .int .u64 (l0 p : Nat)] 61 (0, 0)) (List.mem_cons_of_mem _ (List.mem_cons_of_mem _ (List.mem_cons_of_mem _ (List.mem_cons_of_mem _ (List.mem_cons_of_mem _ (List.mem_cons_self ..))))))) (And.intro (H21.out.at (q := V13.heap.size) (o := .cells #[.int .u64 0, .int .u64 (l3 y9 : Nat), .int .u64 (l2 y9 : Nat), .int .u64 (l1 y9 : Nat), .int .u64 (l0 y9 : Nat), .string ⟨#[]⟩] 82 (0, 0)) (List.mem_cons_of_mem _ (List.mem_cons_self ..))) (And.intro (H21.out.at (q := W.heap.size + 1) (o := .cells #[.int .u64 (l3 q : Nat), .int .u64 (l2 q : Nat), .int .u64 (l1 q : Nat), .int .u64 (l0 q : Nat)] 61 (0, 0)) (List.mem_cons_of_mem _ (List.mem_cons_of_mem _ (List.mem_cons_of_mem _ (List.mem_cons_of_mem _ (List.mem_cons_self ..)))))) (H21.out.at (q := V20.heap.size) (o := .cells #[.int .u64 0, .int .u64 (l3 y9 : Nat), .int .u64 (l2 y9 : Nat), .int .u64 (l1 y9 : Nat), .int .u64 (l0 y9 : Nat), .string ⟨#[]⟩] 82 (0, 0)) (List.mem_cons_self ..))))))
    have HS := Lib.hid (fun (V : World) (hV : V.heap[V11.heap.size]? = some (.cells #[.int .u64 0, .int .u64 (l3 x9 : Nat), .int .u64 (l2 x9 : Nat), .int .u64 (l1 x9 : Nat), .int .u64 (l0 x9 : Nat), .string ⟨#[]⟩] 82 (0, 0)) ∧ V.heap[W.heap.size + 1 + 1]? = some (.cells #[.int .u64 (l3 v : Nat), .int .u64 (l2 v : Nat), .int .u64 (l1 v : Nat), .int .u64 (l0 v : Nat)] 61 (0, 0)) ∧ V.heap[W.heap.size]? = some (.cells #[.int .u64 (l3 p : Nat), .int .u64 (l2 p : Nat), .int .u64 (l1 p : Nat), .int .u64 (l0 p : Nat)] 61 (0, 0)) ∧ V.heap[V13.heap.size]? = some (.cells #[.int .u64 0, .int .u64 (l3 y9 : Nat), .int .u64 (l2 y9 : Nat), .int .u64 (l1 y9 : Nat), .int .u64 (l0 y9 : Nat), .string ⟨#[]⟩] 82 (0, 0)) ∧ V.heap[W.heap.size + 1]? = some (.cells #[.int .u64 (l3 q : Nat), .int .u64 (l2 q : Nat), .int .u64 (l1 q : Nat), .int .u64 (l0 q : Nat)] 61 (0, 0)) ∧ V.heap[V20.heap.size]? = some (.cells #[.int .u64 0, .int .u64 (l3 y9 : Nat), .int .u64 (l2 y9 : Nat), .int .u64 (l1 y9 : Nat), .int .u64 (l0 y9 : Nat), .string ⟨#[]⟩] 82 (0, 0))) => (show V.cell? ⟨V11.heap.size, 0, none⟩ = some (.int .u64 0) ∧ V.cell? ⟨V11.heap.size, 1, none⟩ = some (.int .u64 (l3 x9 : Nat)) ∧ V.cell? ⟨V11.heap.size, 2, none⟩ = some (.int .u64 (l2 x9 : Nat)) ∧ V.cell? ⟨V11.heap.size, 3, none⟩ = some (.int .u64 (l1 x9 : Nat)) ∧ V.cell? ⟨V11.heap.size, 4, none⟩ = some (.int .u64 (l0 x9 : Nat)) ∧ V.cell? ⟨V11.heap.size, 5, none⟩ = some (.string ⟨#[]⟩) ∧ V.cell? ⟨W.heap.size + 1 + 1, 0, none⟩ = some (.int .u64 (l3 v : Nat)) ∧ V.cell? ⟨W.heap.size + 1 + 1, 1, none⟩ = some (.int .u64 (l2 v : Nat)) ∧ V.cell? ⟨W.heap.size + 1 + 1, 2, none⟩ = some (.int .u64 (l1 v : Nat)) ∧ V.cell? ⟨W.heap.size + 1 + 1, 3, none⟩ = some (.int .u64 (l0 v : Nat)) ∧ V.cell? ⟨W.heap.size, 0, none⟩ = some (.int .u64 (l3 p : Nat)) ∧ V.cell? ⟨W.heap.size, 1, none⟩ = some (.int .u64 (l2 p : Nat)) ∧ V.cell? ⟨W.heap.size, 2, none⟩ = some (.int .u64 (l1 p : Nat)) ∧ V.cell? ⟨W.heap.size, 3, none⟩ = some (.int .u64 (l0 p : Nat)) ∧ V.cell? ⟨V13.heap.size, 0, none⟩ = some (.int .u64 0) ∧ V.cell? ⟨V13.heap.size, 1, none⟩ = some (.int .u64 (l3 y9 : Nat)) ∧ V.cell? ⟨V13.heap.size, 2, none⟩ = some (.int .u64 (l2 y9 : Nat)) ∧ V.cell? ⟨V13.heap.size, 3, none⟩ = some (.int .u64 (l1 y9 : Nat)) ∧ V.cell? ⟨V13.heap.size, 4, none⟩ = some (.int .u64 (l0 y9 : Nat)) ∧ V.cell? ⟨V13.heap.size, 5, none⟩ = some (.string ⟨#[]⟩) ∧ V.cell? ⟨W.heap.size + 1, 0, none⟩ = some (.int .u64 (l3 q : Nat)) ∧ V.cell? ⟨W.heap.size + 1, 1, none⟩ = some (.int .u64 (l2 q : Nat)) ∧ V.cell? ⟨W.heap.size + 1, 2, none⟩ = some (.int .u64 (l1 q : Nat)) ∧ V.cell? ⟨W.heap.size + 1, 3, none⟩ = some (.int .u64 (l0 q : Nat)) ∧ V.cell? ⟨V20.heap.size, 0, none⟩ = some (.int .u64 0) ∧ V.cell? ⟨V20.heap.size, 1, none⟩ = some (.int .u64 (l3 y9 : Nat)) ∧ V.cell? ⟨V20.heap.size, 2, none⟩ = some (.int .u64 (l2 y9 : Nat)) ∧ V.cell? ⟨V20.heap.size, 3, none⟩ = some (.int .u64 (l1 y9 : Nat)) ∧ V.cell? ⟨V20.heap.size, 4, none⟩ = some (.int .u64 (l0 y9 : Nat)) ∧ V.cell? ⟨V20.heap.size, 5, none⟩ = some (.string ⟨#[]⟩) from ⟨cell_of hV.1 0, cell_of hV.1 1, cell_of hV.1 2, cell_of hV.1 3, cell_of hV.1 4, cell_of hV.1 5, cell_of hV.2.1 0, cell_of hV.2.1 1, cell_of hV.2.1 2, cell_of hV.2.1 3, cell_of hV.2.2.1 0, cell_of hV.2.2.1 1, cell_of hV.2.2.1 2, cell_of hV.2.2.1 3, cell_of hV.2.2.2.1 0, cell_of hV.2.2.2.1 1, cell_of hV.2.2.2.1 2, cell_of hV.2.2.2.1 3, cell_of hV.2.2.2.1 4, cell_of hV.2.2.2.1 5, cell_of hV.2.2.2.2.1 0, cell_of hV.2.2.2.2.1 1, cell_of hV.2.2.2.2.1 2, cell_of hV.2.2.2.2.1 3, cell_of hV.2.2.2.2.2 0, cell_of hV.2.2.2.2.2 1, cell_of hV.2.2.2.2.2 2, cell_of hV.2.2.2.2.2 3, cell_of hV.2.2.2.2.2 4, cell_of hV.2.2.2.2.2 5⟩))
    refine Drawn.start (fun V => V.heap[V11.heap.size]? = some (.cells #[.int .u64 0, .int .u64 (l3 x9 : Nat), .int .u64 (l2 x9 : Nat), .int .u64 (l1 x9 : Nat), .int .u64 (l0 x9 : Nat), .string ⟨#[]⟩] 82 (0, 0)) ∧ V.heap[W.heap.size + 1 + 1]? = some (.cells #[.int .u64 (l3 v : Nat), .int .u64 (l2 v : Nat), .int .u64 (l1 v : Nat), .int .u64 (l0 v : Nat)] 61 (0, 0)) ∧ V.heap[W.heap.size]? = some (.cells #[.int .u64 (l3 p : Nat), .int .u64 (l2 p : Nat), .int .u64 (l1 p : Nat), .int .u64 (l0 p : Nat)] 61 (0, 0)) ∧ V.heap[V13.heap.size]? = some (.cells #[.int .u64 0, .int .u64 (l3 y9 : Nat), .int .u64 (l2 y9 : Nat), .int .u64 (l1 y9 : Nat), .int .u64 (l0 y9 : Nat), .string ⟨#[]⟩] 82 (0, 0)) ∧ V.heap[W.heap.size + 1]? = some (.cells #[.int .u64 (l3 q : Nat), .int .u64 (l2 q : Nat), .int .u64 (l1 q : Nat), .int .u64 (l0 q : Nat)] 61 (0, 0)) ∧ V.heap[V20.heap.size]? = some (.cells #[.int .u64 0, .int .u64 (l3 y9 : Nat), .int .u64 (l2 y9 : Nat), .int .u64 (l1 y9 : Nat), .int .u64 (l0 y9 : Nat), .string ⟨#[]⟩] 82 (0, 0))) (fun _ => false) (by kernel_rfl) ?_
    generalize World.drew _ = V21 at H21 S0 ⊢
    refine Drawn.only 0 (by kernel_rfl) rfl rfl (fun K hK => ?_)
    try go_simp
    refine hK _ _ (fun _ _ => S0) ?_
    clear hK K
    try simp only [put_list, List.set]
    refine Drawn.only 1 (by kernel_rfl) rfl rfl (fun K hK => ?_)
    try go_simp
    refine hK _ _ (fun _ _ => S0) ?_
    clear hK K
    try simp only [put_list, List.set]
    refine Drawn.only 2 (by kernel_rfl) rfl rfl (fun K hK => ?_)
    try go_simp
    refine hK _ _ (fun _ _ => S0) ?_
    clear hK K
    try simp only [put_list, List.set]
    refine Drawn.only 3 (by kernel_rfl) rfl rfl (fun K hK => ?_)
    try go_simp
    refine hK _ _ (fun _ _ => S0) ?_
    clear hK K
    try simp only [put_list, List.set]
    refine Drawn.only 4 (by kernel_rfl) rfl rfl (fun K hK => ?_)
    try go_simp
    refine hK _ _ (fun _ _ => S0) ?_
    clear hK K
    try simp only [put_list, List.set]
    refine Drawn.only 5 (by kernel_rfl) rfl rfl (fun K hK => ?_)
    try go_simp
    refine hK _ _ (fun _ _ => S0) ?_
    clear hK K
    try simp only [put_list, List.set]
    refine Drawn.take 6 (some 92) (v := ?_) rfl rfl (by kernel_rfl) (by kernel_rfl) (by kernel_rfl) (by kernel_rfl) (by kernel_rfl) rfl (fun _ _ _ h => h) (Or.inl ⟨rfl, ?_⟩) S0 ?_
    rotate_left
    · intro W hW; have hW := HS.out W hW; go_simp; try with_reducible rfl
    simp only [put_list, List.set]
    refine Drawn.take 7 (some 93) (v := ?_) rfl rfl (by kernel_rfl) (by kernel_rfl) (by kernel_rfl) (by kernel_rfl) (by kernel_rfl) rfl (fun _ _ _ h => h) (Or.inl ⟨rfl, ?_⟩) S0 ?_
    rotate_left
    · intro W hW; have hW := HS.out W hW; go_simp; try with_reducible rfl
    simp only [put_list, List.set]
    refine Drawn.take 8 (some 94) (v := ?_) rfl rfl (by kernel_rfl) (by kernel_rfl) (by kernel_rfl) (by kernel_rfl) (by kernel_rfl) rfl (fun _ _ _ h => h) (Or.inl ⟨rfl, ?_⟩) S0 ?_
    rotate_left
    · intro W hW; have hW := HS.out W hW; go_simp; try with_reducible rfl
    simp only [put_list, List.set]
    refine Drawn.take 10 (some 96) (v := ?_) rfl rfl (by kernel_rfl) (by kernel_rfl) (by kernel_rfl) (by kernel_rfl) (by kernel_rfl) rfl (fun _ _ _ h => h) (Or.inl ⟨rfl, ?_⟩) S0 ?_
    rotate_left
    · intro W hW; have hW := HS.out W hW; go_simp; try with_reducible rfl
    simp only [put_list, List.set]
    have C := Lib.hid (fun V => HAdd.out V)
    unfold wordC at C
    refine Drawn.only 9 (by kernel_rfl) rfl rfl (fun K hK => ?_)
    go_simp
    refine (C.out _).mono ?_
    rintro e V22 ⟨rfl, h9⟩
    have H22 := Lib.hid (H21.out.call h9)
    clear H21 h9
    clear S0
    have S0 := And.intro (H22.out.at (q := V11.heap.size) (o := .cells #[.int .u64 0, .int .u64 (l3 x9 : Nat), .int .u64 (l2 x9 : Nat), .int .u64 (l1 x9 : Nat), .int .u64 (l0 x9 : Nat), .string ⟨#[]⟩] 82 (0, 0)) (List.mem_cons_of_mem _ (List.mem_cons_of_mem _ (List.mem_cons_self ..)))) (And.intro (H22.out.at (q := W.heap.size + 1 + 1) (o := .cells #[.int .u64 (l3 v : Nat), .int .u64 (l2 v : Nat), .int .u64 (l1 v : Nat), .int .u64 (l0 v : Nat)] 61 (0, 0)) (List.mem_cons_of_mem _ (List.mem_cons_of_mem _ (List.mem_cons_of_mem _ (List.mem_cons_self ..))))) (And.intro (H22.out.at (q := W.heap.size) (o := .cells #[.int .u64 (l3 p : Nat), .int .u64 (l2 p : Nat), .int .u64 (l1 p : Nat), .int .u64 (l0 p : Nat)] 61 (0, 0)) (List.mem_cons_of_mem _ (List.mem_cons_of_mem _ (List.mem_cons_of_mem _ (List.mem_cons_of_mem _ (List.mem_cons_of_mem _ (List.mem_cons_self ..))))))) (And.intro (H22.out.at (q := V13.heap.size) (o := .cells #[.int .u64 0, .int .u64 (l3 y9 : Nat), .int .u64 (l2 y9 : Nat), .int .u64 (l1 y9 : Nat), .int .u64 (l0 y9 : Nat), .string ⟨#[]⟩] 82 (0, 0)) (List.mem_cons_of_mem _ (List.mem_cons_self ..))) (And.intro (H22.out.at (q := W.heap.size + 1) (o := .cells #[.int .u64 (l3 q : Nat), .int .u64 (l2 q : Nat), .int .u64 (l1 q : Nat), .int .u64 (l0 q : Nat)] 61 (0, 0)) (List.mem_cons_of_mem _ (List.mem_cons_of_mem _ (List.mem_cons_of_mem _ (List.mem_cons_of_mem _ (List.mem_cons_self ..)))))) (H22.out.at (q := V20.heap.size) (o := .cells #[.int .u64 0, .int .u64 (l3 y9 : Nat), .int .u64 (l2 y9 : Nat), .int .u64 (l1 y9 : Nat), .int .u64 (l0 y9 : Nat), .string ⟨#[]⟩] 82 (0, 0)) (List.mem_cons_self ..))))))
    refine hK _ _ (fun _ _ => S0) ?_
    clear hK K C
    try simp only [put_list, List.set]
    refine Drawn.only 11 (by kernel_rfl) rfl rfl (fun K hK => ?_)
    try go_simp
    refine hK _ _ (fun _ _ => S0) ?_
    clear hK K
    try simp only [put_list, List.set]
    refine Drawn.only 12 (by kernel_rfl) rfl rfl (fun K hK => ?_)
    try go_simp
    refine hK _ _ (fun _ _ => S0) ?_
    clear hK K
    try simp only [put_list, List.set]
    refine Drawn.only 13 (by kernel_rfl) rfl rfl (fun K hK => ?_)
    try go_simp
    refine hK _ _ (fun _ _ => S0) ?_
    clear hK K
    try simp only [put_list, List.set]
    refine Drawn.take 14 (some 100) (v := ?_) rfl rfl (by kernel_rfl) (by kernel_rfl) (by kernel_rfl) (by kernel_rfl) (by kernel_rfl) rfl (fun _ _ _ h => h) (Or.inl ⟨rfl, ?_⟩) S0 ?_
    rotate_left
    · intro W hW; have hW := HS.out W hW; go_simp; try with_reducible rfl
    simp only [put_list, List.set]
    refine Drawn.take 15 (some 101) (v := ?_) rfl rfl (by kernel_rfl) (by kernel_rfl) (by kernel_rfl) (by kernel_rfl) (by kernel_rfl) rfl (fun _ _ _ h => h) (Or.inl ⟨rfl, ?_⟩) S0 ?_
    rotate_left
    · intro W hW; have hW := HS.out W hW; go_simp; try with_reducible rfl
    simp only [put_list, List.set]
    refine Drawn.take 16 (some 102) (v := ?_) rfl rfl (by kernel_rfl) (by kernel_rfl) (by kernel_rfl) (by kernel_rfl) (by kernel_rfl) rfl (fun _ _ _ h => h) (Or.inl ⟨rfl, ?_⟩) S0 ?_
    rotate_left
    · intro W hW; have hW := HS.out W hW; go_simp; try with_reducible rfl
    simp only [put_list, List.set]
    refine Drawn.take 18 (some 104) (v := ?_) rfl rfl (by kernel_rfl) (by kernel_rfl) (by kernel_rfl) (by kernel_rfl) (by kernel_rfl) rfl (fun _ _ _ h => h) (Or.inl ⟨rfl, ?_⟩) S0 ?_
    rotate_left
    · intro W hW; have hW := HS.out W hW; go_simp; try with_reducible rfl
    simp only [put_list, List.set]
    have C := Lib.hid (fun V => HSub.out V)
    unfold wordC at C
    refine Drawn.only 17 (by kernel_rfl) rfl rfl (fun K hK => ?_)
    go_simp
    refine (C.out _).mono ?_
    rintro e V23 ⟨rfl, h9⟩
    have H23 := Lib.hid (H22.out.call h9)
    clear H22 h9
    clear S0
    have S0 := And.intro (H23.out.at (q := V11.heap.size) (o := .cells #[.int .u64 0, .int .u64 (l3 x9 : Nat), .int .u64 (l2 x9 : Nat), .int .u64 (l1 x9 : Nat), .int .u64 (l0 x9 : Nat), .string ⟨#[]⟩] 82 (0, 0)) (List.mem_cons_of_mem _ (List.mem_cons_of_mem _ (List.mem_cons_self ..)))) (And.intro (H23.out.at (q := W.heap.size + 1 + 1) (o := .cells #[.int .u64 (l3 v : Nat), .int .u64 (l2 v : Nat), .int .u64 (l1 v : Nat), .int .u64 (l0 v : Nat)] 61 (0, 0)) (List.mem_cons_of_mem _ (List.mem_cons_of_mem _ (List.mem_cons_of_mem _ (List.mem_cons_self ..))))) (And.intro (H23.out.at (q := W.heap.size) (o := .cells #[.int .u64 (l3 p : Nat), .int .u64 (l2 p : Nat), .int .u64 (l1 p : Nat), .int .u64 (l0 p : Nat)] 61 (0, 0)) (List.mem_cons_of_mem _ (List.mem_cons_of_mem _ (List.mem_cons_of_mem _ (List.mem_cons_of_mem _ (List.mem_cons_of_mem _ (List.mem_cons_self ..))))))) (And.intro (H23.out.at (q := V13.heap.size) (o := .cells #[.int .u64 0, .int .u64 (l3 y9 : Nat), .int .u64 (l2 y9 : Nat), .int .u64 (l1 y9 : Nat), .int .u64 (l0 y9 : Nat), .string ⟨#[]⟩] 82 (0, 0)) (List.mem_cons_of_mem _ (List.mem_cons_self ..))) (And.intro (H23.out.at (q := W.heap.size + 1) (o := .cells #[.int .u64 (l3 q : Nat), .int .u64 (l2 q : Nat), .int .u64 (l1 q : Nat), .int .u64 (l0 q : Nat)] 61 (0, 0)) (List.mem_cons_of_mem _ (List.mem_cons_of_mem _ (List.mem_cons_of_mem _ (List.mem_cons_of_mem _ (List.mem_cons_self ..)))))) (H23.out.at (q := V20.heap.size) (o := .cells #[.int .u64 0, .int .u64 (l3 y9 : Nat), .int .u64 (l2 y9 : Nat), .int .u64 (l1 y9 : Nat), .int .u64 (l0 y9 : Nat), .string ⟨#[]⟩] 82 (0, 0)) (List.mem_cons_self ..))))))
    refine hK _ _ (fun _ _ => S0) ?_
    clear hK K C
    try simp only [put_list, List.set]
    refine Drawn.only 19 (by kernel_rfl) rfl rfl (fun K hK => ?_)
    try go_simp
    refine hK _ _ (fun _ _ => S0) ?_
    clear hK K
    try simp only [put_list, List.set]
    refine Drawn.only 20 (by kernel_rfl) rfl rfl (fun K hK => ?_)
    try go_simp
    refine hK _ _ (fun _ _ => S0) ?_
    clear hK K
    try simp only [put_list, List.set]
    refine Drawn.only 21 (by kernel_rfl) rfl rfl (fun K hK => ?_)
    try go_simp
    refine hK _ _ (fun _ _ => S0) ?_
    clear hK K
    try simp only [put_list, List.set]
    refine Drawn.only 22 (by kernel_rfl) rfl rfl (fun K hK => ?_)
    try go_simp
    refine hK _ _ (fun _ _ => S0) ?_
    clear hK K
    try simp only [put_list, List.set]
    refine Drawn.only 23 (by kernel_rfl) rfl rfl (fun K hK => ?_)
    try go_simp
    refine hK _ _ (fun _ _ => S0) ?_
    clear hK K
    try simp only [put_list, List.set]
    refine Drawn.only 24 (by kernel_rfl) rfl rfl (fun K hK => ?_)
    try go_simp
    refine hK _ _ (fun _ _ => S0) ?_
    clear hK K
    try simp only [put_list, List.set]
    refine Drawn.only 25 (by kernel_rfl) rfl rfl (fun K hK => ?_)
    try go_simp
    refine hK _ _ (fun _ _ => S0) ?_
    clear hK K
    try simp only [put_list, List.set]
    refine Drawn.take 26 (some 112) (v := ?_) rfl rfl (by kernel_rfl) (by kernel_rfl) (by kernel_rfl) (by kernel_rfl) (by kernel_rfl) rfl (fun _ _ _ h => h) (Or.inl ⟨rfl, ?_⟩) S0 ?_
    rotate_left
    · intro W hW; have hW := HS.out W hW; go_simp; try with_reducible rfl
    simp only [put_list, List.set]
    refine Drawn.take 27 (some 113) (v := ?_) rfl rfl (by kernel_rfl) (by kernel_rfl) (by kernel_rfl) (by kernel_rfl) (by kernel_rfl) rfl (fun _ _ _ h => h) (Or.inl ⟨rfl, ?_⟩) S0 ?_
    rotate_left
    · intro W hW; have hW := HS.out W hW; go_simp; try with_reducible rfl
    simp only [put_list, List.set]
    have EA := eq_acc ⟨0, 0, y9, [], 0⟩
    unfold accC at EA
    simp only [show str [] = ⟨#[]⟩ from rfl, show ((0 : Nat) : Int) = 0 from rfl] at EA
    refine Drawn.only 28 (by kernel_rfl) rfl rfl (fun K hK => ?_)
    try go_simp
    refine hK _ _ (fun _ _ => S0) ?_
    clear hK K
    try simp only [put_list, List.set]
    refine Drawn.only 29 (by kernel_rfl) rfl rfl (fun K hK => ?_)
    try go_simp
    refine hK _ _ (fun _ _ => S0) ?_
    clear hK K
    try simp only [put_list, List.set]
    refine Drawn.only 30 (by kernel_rfl) rfl rfl (fun K hK => ?_)
    try go_simp
    refine hK _ _ (fun _ _ => S0) ?_
    clear hK K
    try simp only [put_list, List.set]
    clear HS S0
    refine Drawn.done (by kernel_rfl) ?_ _
    go_wp2_with fail
    go_ret
    exact ⟨rfl, H23.out.below⟩
end Go.Proofs.YtekoaheiapddiaaGreat.Dz.Wo
end
