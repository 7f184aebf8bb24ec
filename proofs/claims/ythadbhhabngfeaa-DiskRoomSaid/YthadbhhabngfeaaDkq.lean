/- DiskRoom. -/
import Derived.Test.YthadbhhabngfeaaDkp
import Derived.Deep.OwnRows
namespace Go.Proofs.Ythadbhhabngfeaa
open Go.RowKit Go.Maps Go.WideElems Go.ChangeMaps Go.MapKept Go.WideMaps
/-- At the head of round j: U bytes are there; the three texts lie in block g. -/
def RoomI (N U j d g : Nat) (la lb lc : Nm) (W wr : World) : Prop := ∃ x, Al x d W wr ∧ x.room = (N : Int) ∧ x.used = (U : Int) ∧ x.n ≤ j ∧ (bytesF (x.fs [102])).length = U ∧ (∀ u, u ≠ [102] → x.fs u = none) ∧ wr.heap[g]? = some (.cells #[.string (str la), .string (str lb), .string (str lc)] 9 (0, 0)) ∧ ¬ x.ft g ∧ U ≤ N
def RoomZ (N U d : Nat) (W wr : World) : Prop := ∃ x, Al x d W wr ∧ x.room = (N : Int) ∧ x.used = (U : Int) ∧ x.n ≤ 4 ∧ (U = 0 → ∀ u, x.fs u = none) ∧ U ≤ N
section
variable {N U j d g : Nat} {la lb lc : Nm} {W wr : World}
theorem RoomI.drew (h : RoomI N U j d g la lb lc W wr) : RoomI N U j d g la lb lc W wr.drew := by
  obtain ⟨x, h1, h2⟩ := h
  exact ⟨x, ⟨h1.d, h1.at_.drew, h1.chg.trans (Chg.of_below (Below.refl _ _).drew), h1.fine, h1.dead, h1.after⟩, h2⟩
def pick (la lb lc : Nm) (j : Nat) : Nm := if j = 0 then la else if j = 1 then lb else lc
theorem RoomI.cell (h : RoomI N U j d g la lb lc W wr) {k : Nat} (hk : k < 3) (V : World) (hV : Below wr.heap.size wr V) : V.cell? ⟨g, k, none⟩ = some (.string (str (pick la lb lc k))) := by
  obtain ⟨x, _, _, _, _, _, _, h7, _⟩ := h
  have h8 : V.heap[g]? = _ := (hV.block _ (lt_of h7)).trans h7
  rw [cell_of h8 k]
  rcases (show k = 0 ∨ k = 1 ∨ k = 2 by omega) with rfl | rfl | rfl <;> rfl
theorem RoomI.fits (h : RoomI N U j d g la lb lc W wr) {s : Nm} (hj : j < 10) (hN : N ≤ 1000) (hf : U + s.length ≤ N) :
    Calls Try.prog 10 #[.pointer (some ⟨d, 0, none⟩), .string (str [102]), .string (str s)] wr fun e W2 => e = .returned (.int .i64 0) ∧ RoomI N (U + s.length) (j + 1) d g la lb lc W W2 := by
  obtain ⟨x, h1, h2, h3, h4, h5, h6, h7, h8, h9⟩ := h
  have hg : g < wr.heap.size := lt_of h7
  have hd := h1.d
  subst hd
  refine (append_fits (s := [102]) (xs := s) h1.at_ h1.dead h1.nz h1.fine (by rw [h2, h3]; omega) (long_ok (by simp)) (by rw [h5]; omega)).mono ?_
  rintro e W2 ⟨rfl, f, q1, q2, q3, q4⟩
  rw [h1.tick] at q3 q4
  refine ⟨rfl, x.put [102] f s.length, ⟨rfl, q3, h1.chg.trans q4, h1.fine.put _ _ _ (by rw [h3]; omega) (by omega), h1.dead, h1.after⟩, h2, by show x.used + (s.length : Nat) = _; rw [h3]; omega, by show x.n + 1 ≤ _; omega, ?_, fun u hu => ?_, (q4.block _ hg h8).trans h7, fun hk => (q4.new _ hk).elim h8 (by omega), hf⟩
  · rw [put_fs]; show f.bs.length = _; rw [q1, List.length_append, h5]
  · rw [put_fs_ne _ _ _ hu]; exact h6 u hu
theorem RoomI.full (h : RoomI N U j d g la lb lc W wr) {s : Nm} (hf : ¬ U + s.length ≤ N) :
    Calls Try.prog 10 #[.pointer (some ⟨d, 0, none⟩), .string (str [102]), .string (str s)] wr fun e W2 => e = .returned (.int .i64 5) ∧ RoomI N U (j + 1) d g la lb lc W W2 := by
  obtain ⟨x, h1, h2, h3, h4, h5, h6, h7, h8, h9⟩ := h
  have hg : g < wr.heap.size := lt_of h7
  have hd := h1.d
  subst hd
  refine (append_full (s := [102]) (xs := s) h1.at_ h1.dead h1.nz h1.fine (by rw [h2, h3]; omega)).mono ?_
  rintro e W2 ⟨rfl, q3, q4⟩
  rw [h1.tick] at q3
  exact ⟨rfl, x, ⟨rfl, q3, h1.chg.trans q4, h1.fine, h1.dead, h1.after⟩, h2, h3, by omega, h5, h6, (q4.block _ hg h8).trans h7, h8, h9⟩
theorem RoomI.used (h : RoomI N U j d g la lb lc W wr) : Calls Try.prog 16 #[.pointer (some ⟨d, 0, none⟩)] wr fun e W2 => e = .returned (.int .i64 (U : Nat)) ∧ W2 = wr := by
  obtain ⟨x, h1, h2, h3, h4⟩ := h
  have h := h1.used_c; rw [h3] at h; exact h
theorem RoomI.del (h : RoomI N U j d g la lb lc W wr) (hj : j ≤ 4) : Calls Try.prog 17 #[.pointer (some ⟨d, 0, none⟩), .string (str [102])] wr fun e W2 => ∃ r, e = .returned (.int .i64 r) ∧ RoomZ N 0 d W W2 := by
  obtain ⟨x, h1, h2, h3, h4, h5, h6, h7, h8, h9⟩ := h
  cases hf : x.fs [102] with
  | none =>
    rw [hf] at h5
    refine (h1.delete_none hf (by simp)).mono ?_
    rintro e W2 ⟨rfl, q⟩
    refine ⟨_, rfl, x, q, h2, by rw [h3]; show (U : Int) = 0; have : U = 0 := h5.symm; omega, by omega, fun _ u => ?_, Nat.zero_le _⟩
    by_cases e : u = [102]
    · subst e; exact hf
    · exact h6 u e
  | some f =>
    rw [hf] at h5
    have hfl : f.bs.length = U := h5
    refine (h1.delete hf (by simp) (by rw [h3, hfl]; exact Int.le_refl _)).mono ?_
    rintro e W2 ⟨rfl, q⟩
    refine ⟨_, rfl, _, q, h2, by show x.used - (f.bs.length : Int) = _; rw [h3, hfl]; omega, by show x.n ≤ 4; omega, fun _ u => ?_, Nat.zero_le _⟩
    by_cases e : u = [102]
    · subst e; exact rem_fs _ _ _
    · rw [rem_fs_ne _ _ e]; exact h6 u e
theorem RoomZ.used (h : RoomZ N U d W wr) : Calls Try.prog 16 #[.pointer (some ⟨d, 0, none⟩)] wr fun e W2 => e = .returned (.int .i64 (U : Nat)) ∧ W2 = wr := by
  obtain ⟨x, h1, h2, h3, h4⟩ := h
  have h := h1.used_c; rw [h3] at h; exact h
theorem RoomZ.names (h : RoomZ N 0 d W wr) : Calls Try.prog 18 #[.pointer (some ⟨d, 0, none⟩)] wr fun e W2 => (∃ a c, e = .returned (.slice a 0 c)) ∧ RoomZ N 0 d W W2 := by
  obtain ⟨x, h1, h2, h3, h4, h5, h6⟩ := h
  have hd := h1.d
  subst hd
  refine (names_c (ns := []) h1.at_ ⟨List.nodup_nil, fun s => by rw [h5 rfl s]; simp⟩ (by simp)).mono ?_
  rintro e W2 ⟨v, rfl, hrow, hb⟩
  obtain ⟨a, c, rfl⟩ := own_any hrow
  exact ⟨⟨a, c, rfl⟩, x, ⟨rfl, h1.at_.below hb, h1.chg.trans (Chg.of_below hb), h1.fine, h1.dead, h1.after⟩, h2, h3, h4, h5, h6⟩
theorem RoomZ.alloc (h : RoomZ N U d W wr) (o : Obj) : RoomZ N U d W (wr.alloc o) := by
  obtain ⟨x, h1, h2⟩ := h
  exact ⟨x, ⟨h1.d, h1.at_.alloc _, h1.chg.trans (Chg.of_below ((Below.refl _ _).alloc (Nat.le_refl _) _)), h1.fine, h1.dead, h1.after⟩, h2⟩
theorem RoomZ.fill (h : RoomZ N 0 d W wr) {s : Nm} (hs : s.length = N) (hN : N ≤ 1000) : Calls Try.prog 10 #[.pointer (some ⟨d, 0, none⟩), .string (str [103]), .string (str s)] wr fun e W2 => e = .returned (.int .i64 0) ∧
    Calls Try.prog 10 #[.pointer (some ⟨d, 0, none⟩), .string (str [103]), .string (str [120])] W2 fun e W3 => e = .returned (.int .i64 5) ∧ Below W.heap.size W W3 := by
  obtain ⟨x, h1, h2, h3, h4, h5, h6⟩ := h
  refine (h1.append (s := [103]) (xs := s) (by rw [h2, h3, hs]; omega) (by simp) (by rw [h5 rfl]; show 0 + s.length ≤ _; omega) (by rw [h3, hs]; omega) (by omega)).mono ?_
  rintro e W2 ⟨rfl, f, q1, q2, q3⟩
  refine ⟨rfl, (q3.full (s := [103]) (xs := [120]) ?_).mono ?_⟩
  · show ¬ (1 : Int) ≤ x.room - (x.used + (s.length : Nat)); rw [h2, h3, hs]; omega
  · rintro e W3 ⟨rfl, q⟩
    exact ⟨rfl, q.chg.below⟩
end
theorem zeros_of (N : Nat) (W : World) : (convert 38 9 (.slice (some ⟨W.heap.size, 0, none⟩) N N)).run Try.prog (W.alloc (.cells (madeCells #[.int .u8 0] N) 5)) = .ok (.string (str (List.replicate N 0))) (W.alloc (.cells (madeCells #[.int .u8 0] N) 5)) := by
  have h := run_convert_bytes_back (P := Try.prog) (W.alloc (.cells (madeCells #[.int .u8 0] N) 5)) 38 9 5 ⟨W.heap.size, 0, none⟩ N (List.replicate N 0) Try.underlying38 Try.underlying5 Try.underlying9 (fun j hj => by
    rw [List.length_replicate] at hj
    have e : (⟨W.heap.size, 0, none⟩ : Addr).add j = ⟨W.heap.size, j, none⟩ := by unfold Addr.add; split <;> simp_all
    rw [e, cell_of (heap_alloc_new W _) j, ← Array.getElem?_toList, toList_madeCells_one, List.getElem?_replicate, if_pos hj, List.getElem_replicate]
    rfl)
  rw [List.length_replicate] at h
  exact h
theorem cut_is (n : Nat) : (if (200 : Int) < (n : Int) then (200 : Int) else (n : Int)) = ((min n 200 : Nat) : Int) := by
  split <;> omega
set_option maxRecDepth 100000 in
set_option maxHeartbeats 4000000 in
theorem room_c (n : Nat) (hn : n < 65536) (a b c : ByteArray) (W : World) : Calls Try.prog 4 #[.int .u16 (n : Nat), .string a, .string b, .string c] W fun e W' => e = .returned (.bool true) ∧ Below W.heap.size W W' := by
  obtain ⟨la, rfl⟩ : ∃ la, a = str la := ⟨_, (str_of a).symm⟩
  obtain ⟨lb, rfl⟩ : ∃ lb, b = str lb := ⟨_, (str_of b).symm⟩
  obtain ⟨lc, rfl⟩ : ∃ lc, c = str lc := ⟨_, (str_of c).symm⟩
  obtain ⟨N, hN⟩ : ∃ N, N = n % 301 := ⟨_, rfl⟩
  have hN301 : N ≤ 300 := by omega
  have HN := Lib.hid (show (n : Int) % 301 = (N : Int) by omega)
  clear hN
  go_enter Try.func4, Try.ntmps4
  go_wp2_with fail
  refine (examples_c W).mono ?_
  rintro e W1 ⟨rfl, hb⟩
  have B1 := Lib.hid hb
  clear hb
  go_wp2_with fail
  rw [HN.out]
  refine (new_c N (by omega) W1).mono ?_
  rintro e W2 ⟨d, m, rfl, h1, hc1⟩
  have H2 := Lib.hid (Al.new (by omega) h1 hc1)
  clear h1 hc1 HN hn
  go_wp2_with fail
  have HA := Lib.hid (show RoomI N 0 0 d W2.heap.size la lb lc W1 (W2.alloc (.cells #[.string (str la), .string (str lb), .string (str lc)] 9)) from
    ⟨Dk.new d m N, ⟨rfl, H2.out.at_.alloc _, H2.out.chg.trans (Chg.of_below ((Below.refl _ _).alloc (Nat.le_refl _) _)), H2.out.fine, rfl, rfl⟩, rfl, rfl, by show 0 ≤ 0; omega, rfl, fun _ _ => rfl, heap_alloc_new _ _, fun hk => by have := H2.out.at_.lt hk; omega, Nat.zero_le _⟩)
  clear H2
  generalize W2.heap.size = g at *
  go_loopw [13, 15] (fun us b wr => ∃ j U : Nat, us = .int .i64 U ∧ b = .int .i64 j ∧ j ≤ 3 ∧ RoomI N U j d g la lb lc W1 wr) (fun _ b w => 3 - (intOf b).toNat)
  case atStart => exact ⟨0, 0, rfl, rfl, by omega, HA.out⟩
  case round =>
    obtain ⟨j, U, rfl, rfl, hj, hi⟩ := hrel
    have HI := Lib.hid hi
    clear hi HA
    have hUN : U ≤ N := by obtain ⟨_, _, _, _, _, _, _, _, _, h⟩ := HI.out; exact h
    by_cases hj3 : j < 3
    · obtain ⟨s, hs⟩ : ∃ s, s = pick la lb lc j := ⟨_, rfl⟩
      have hlen := str_size s
      obtain ⟨mm, hmm⟩ : ∃ mm, mm = min s.length 200 := ⟨_, rfl⟩
      have hle : mm ≤ s.length := by omega
      have hst := str_take s mm
      have HM := Lib.hid hmm
      have HS := Lib.hid (fun (V : World) (hV : Below wr.heap.size wr V) => hs ▸ HI.out.cell hj3 V hV)
      clear hs hmm
      go_wp2_with fail
      have H0 : Below wr.heap.size wr wr.drew := (Below.refl _ _).drew
      refine Drawn.start (fun V => Below wr.heap.size wr V) (fun _ => false) (by kernel_rfl) ?_
      refine Drawn.take 0 (some 44) (v := ?_) rfl rfl (by kernel_rfl) (by kernel_rfl) (by kernel_rfl) (by kernel_rfl) (by kernel_rfl) rfl (fun _ _ _ h => h) (Or.inl ⟨rfl, ?_⟩) H0 ?_
      rotate_left
      · intro W hW; have hW := HS.out W hW; go_simp; try with_reducible rfl
      simp only [put_list, List.set]
      refine Drawn.take 1 (some 45) (v := ?_) rfl rfl (by kernel_rfl) (by kernel_rfl) (by kernel_rfl) (by kernel_rfl) (by kernel_rfl) rfl (fun _ _ _ h => h) (Or.inl ⟨rfl, ?_⟩) H0 ?_
      rotate_left
      · intro W hW; have hW := HS.out W hW; go_simp; try with_reducible rfl
      simp only [put_list, List.set]
      refine Drawn.take 2 (some 46) (v := ?_) rfl rfl (by kernel_rfl) (by kernel_rfl) (by kernel_rfl) (by kernel_rfl) (by kernel_rfl) rfl (fun _ _ _ h => h) (Or.inl ⟨rfl, ?_⟩) H0 ?_
      rotate_left
      · intro W hW; have hW := HS.out W hW; go_simp; try with_reducible rfl
      simp only [put_list, List.set]
      refine Drawn.take 3 (some 47) (v := ?_) rfl rfl (by kernel_rfl) (by kernel_rfl) (by kernel_rfl) (by kernel_rfl) (by kernel_rfl) rfl (fun _ _ _ h => h) (Or.inl ⟨rfl, ?_⟩) H0 ?_
      rotate_left
      · intro W hW; have hW := HS.out W hW; go_simp; try with_reducible rfl
      simp only [put_list, List.set]
      refine Drawn.take 4 (some 48) (v := ?_) rfl rfl (by kernel_rfl) (by kernel_rfl) (by kernel_rfl) (by kernel_rfl) (by kernel_rfl) rfl (fun _ _ _ h => h) (Or.inl ⟨rfl, ?_⟩) H0 ?_
      rotate_left
      · intro W hW; have hW := HS.out W hW; go_simp; try with_reducible rfl
      simp only [put_list, List.set]
      refine Drawn.take 5 (some 49) (v := ?_) rfl rfl (by kernel_rfl) (by kernel_rfl) (by kernel_rfl) (by kernel_rfl) (by kernel_rfl) rfl (fun _ _ _ h => h) (Or.inl ⟨rfl, ?_⟩) H0 ?_
      rotate_left
      · intro W hW; have hW := HS.out W hW; go_simp; try with_reducible rfl
      simp only [put_list, List.set]
      refine Drawn.take 6 (some 50) (v := ?_) rfl rfl (by kernel_rfl) (by kernel_rfl) (by kernel_rfl) (by kernel_rfl) (by kernel_rfl) rfl (fun _ _ _ h => h) (Or.inl ⟨rfl, ?_⟩) H0 ?_
      rotate_left
      · intro W hW; have hW := HS.out W hW; go_simp; try with_reducible rfl
      simp only [put_list, List.set]
      refine Drawn.take 7 (some 51) (v := ?_) rfl rfl (by kernel_rfl) (by kernel_rfl) (by kernel_rfl) (by kernel_rfl) (by kernel_rfl) rfl (fun _ _ _ h => h) (Or.inl ⟨rfl, ?_⟩) H0 ?_
      rotate_left
      · intro W hW; have hW := HS.out W hW; go_simp; try with_reducible rfl
      simp only [put_list, List.set]
      refine Drawn.take 8 (some 52) (v := ?_) rfl rfl (by kernel_rfl) (by kernel_rfl) (by kernel_rfl) (by kernel_rfl) (by kernel_rfl) rfl (fun _ _ _ h => h) (Or.inl ⟨rfl, ?_⟩) H0 ?_
      rotate_left
      · intro W hW; have hW := HS.out W hW; go_simp; try with_reducible rfl
      simp only [put_list, List.set]
      refine Drawn.take 9 (some 53) (v := .int .i64 (mm : Nat)) rfl rfl (by kernel_rfl) (by kernel_rfl) (by kernel_rfl) (by kernel_rfl) (by kernel_rfl) rfl (fun _ _ _ h => h) (Or.inl ⟨rfl, ?_⟩) H0 ?_
      · intro V hV; have hV := HS.out V hV; go_simp; have := HM.out; omega
      simp only [put_list, List.set]
      refine Drawn.take 10 (some 54) (v := ?_) rfl rfl (by kernel_rfl) (by kernel_rfl) (by kernel_rfl) (by kernel_rfl) (by kernel_rfl) rfl (fun _ _ _ h => h) (Or.inl ⟨rfl, ?_⟩) H0 ?_
      rotate_left
      · intro W hW; have hW := HS.out W hW; go_simp; try with_reducible rfl
      simp only [put_list, List.set]
      refine Drawn.take 11 (some 16) (v := ?_) rfl rfl (by kernel_rfl) (by kernel_rfl) (by kernel_rfl) (by kernel_rfl) (by kernel_rfl) rfl (fun _ _ _ h => h) (Or.inl ⟨rfl, ?_⟩) H0 ?_
      rotate_left
      · intro W hW; have hW := HS.out W hW; go_simp; try with_reducible rfl
      simp only [put_list, List.set]
      refine Drawn.done (by kernel_rfl) ?_ _
      have hsz : (str (s.take mm)).size = mm := by rw [str_size, List.length_take]; omega
      have hl : (s.take mm).length = mm := by rw [List.length_take]; omega
      have hm200 : mm ≤ 200 := by have := HM.out; omega
      have HI := Lib.hid HI.out.drew
      clear hle hst hlen HS
      generalize s.take mm = z at *
      by_cases hf : U + z.length ≤ N
      · have HF := Lib.hid (HI.out.fits (s := z) (by omega) (by omega) hf)
        rw [hl] at HF hf
        clear hl
        go_wp2_with fail
        refine HF.out.mono ?_
        rintro e W4 ⟨rfl, hi4⟩
        have HI4 := Lib.hid hi4
        clear hi4 HF HI
        go_wp2_with fail
        refine ⟨⟨j + 1, U + mm, by go_num, by go_num, by omega, HI4.out⟩, ?_⟩
        simp [intOf]; omega
      · have HF := Lib.hid (HI.out.full (s := z) hf)
        rw [hl] at hf
        clear hl
        go_wp2_with fail
        refine HF.out.mono ?_
        rintro e W4 ⟨rfl, hi4⟩
        have HI4 := Lib.hid hi4
        clear hi4 HF HI
        go_wp2_with fail
        refine ⟨⟨j + 1, U, by go_num, by go_num, by omega, HI4.out⟩, ?_⟩
        simp [intOf]; omega
    · obtain rfl : j = 3 := by omega
      clear hj hj3
      have hmk := run_make_row' (P := Try.prog) 38 5 (.int .u8 0) 1 Try.underlying38 infoByte rfl .i64 .i64 N (by omega) (by omega)
      have hcv := zeros_of N
      have hzl : (List.replicate N (0 : UInt8)).length = N := List.length_replicate
      generalize hzz : List.replicate N (0 : UInt8) = zz at *
      clear hzz
      have HZL := Lib.hid hzl
      clear hzl
      go_wp2_with fail
      refine HI.out.used.mono ?_
      rintro e W4 ⟨rfl, rfl⟩
      go_wp2_with fail
      refine (HI.out.del (by omega)).mono ?_
      rintro e W5 ⟨r, rfl, h5⟩
      have H5 := Lib.hid h5
      clear h5 HI
      go_wp2_with fail
      refine H5.out.used.mono ?_
      rintro e W6 ⟨rfl, rfl⟩
      go_wp2_with fail
      refine H5.out.names.mono ?_
      rintro e W7 ⟨⟨va, vc, rfl⟩, h7⟩
      have H7 := Lib.hid h7
      clear h7 H5
      go_wp2_with fail
      refine ((H7.out.alloc _).fill HZL.out (by omega)).mono ?_
      rintro e W8 ⟨rfl, h8⟩
      have H8 := Lib.hid h8
      clear h8 H7
      go_wp2_with fail
      refine H8.out.mono ?_
      rintro e W9 ⟨rfl, h9⟩
      have HB := Lib.hid (B1.out.trans (h9.mono B1.out.size))
      clear h9 H8
      go_wp2_with fail
      go_ret
      exact ⟨rfl, HB.out⟩
end Go.Proofs.Ythadbhhabngfeaa
