/- Append's two closures. -/
import Derived.Test.YtialfpkmcafkmaaGreatDkf
namespace Go.Proofs.YtialfpkmcafkmaaGreat
open Go.RowKit Go.Maps Go.WideElems Go.ChangeMaps Go.MapKept Go.WideMaps
section
variable {x : Dk} {W : World} {s xs : Nm} {b0 b1 b2 b3 : Nat}
theorem Caps.reads (h : Caps x s xs b0 b1 b2 b3 W) : W.cell? ⟨b0, 0, none⟩ = some (.pointer (some ⟨x.d, 0, none⟩)) ∧ W.cell? ⟨b1, 0, none⟩ = some (.string (str s)) ∧ W.cell? ⟨b2, 0, none⟩ = some (.string (str xs)) ∧ W.cell? ⟨b3, 0, none⟩ = some (.bool (decide ((xs.length : Int) ≤ x.room - x.used))) :=
  ⟨cell_of h.c0 0, cell_of h.c1 0, cell_of h.c2 0, cell_of h.c3 0⟩
set_option maxRecDepth 100000 in
theorem whole_full (hc : Caps x s xs b0 b1 b2 b3 W) (hn : ¬ (xs.length : Int) ≤ x.room - x.used) :
    Calls Tryz.prog 47 #[.pointer (some ⟨b3, 0, none⟩), .pointer (some ⟨b0, 0, none⟩), .pointer (some ⟨b1, 0, none⟩), .pointer (some ⟨b2, 0, none⟩)] W fun e W' => e = .returned (.int .i64 5) ∧ W' = W := by
  obtain ⟨_, _, _, k3⟩ := hc.reads
  rw [decide_eq_false hn] at k3
  clear hc hn
  go_enter Tryz.func47, Tryz.ntmps47
  go_wp2_with fail
  go_ret
  exact ⟨rfl, rfl⟩
set_option maxRecDepth 100000 in
theorem whole_fits (hc : Caps x s xs b0 b1 b2 b3 W) (h : DiskAt x W) (hf : (xs.length : Int) ≤ x.room - x.used) (hs : s.length ≤ maxLen) (hb : (bytesF (x.fs s)).length + xs.length ≤ 1000000000) (hn : x.n < 1000000) (hu : -1000000000000 ≤ x.used ∧ x.used ≤ 1000000000000) :
    Calls Tryz.prog 47 #[.pointer (some ⟨b3, 0, none⟩), .pointer (some ⟨b0, 0, none⟩), .pointer (some ⟨b1, 0, none⟩), .pointer (some ⟨b2, 0, none⟩)] W fun e W' => e = .returned (.int .i64 0) ∧ ∃ f, f.bs = bytesF (x.fs s) ++ xs ∧ f.syn = synF (x.fs s) ∧
      DiskAt { x with n := x.n + 1, fs := updF x.fs s (some f), used := x.used + xs.length } W' ∧ Chg x.ft (Dk.ft { x with n := x.n + 1, fs := updF x.fs s (some f), used := x.used + xs.length }) W W' := by
  obtain ⟨k0, k1, k2, k3⟩ := hc.reads
  rw [decide_eq_true hf] at k3
  have HW := Lib.hid (write_c h hs hb hn hu)
  clear hc hf h hs hb hn hu
  generalize str s = y at *
  generalize str xs = z at *
  go_enter Tryz.func47, Tryz.ntmps47
  go_wp2_with fail
  refine HW.out.mono ?_
  rintro e W1 ⟨rfl, hq⟩
  have HQ := Lib.hid hq
  clear hq
  go_wp2_with fail
  go_ret
  exact ⟨rfl, HQ.out⟩
/-- What is torn off. -/
def tornN (t : Int) (n : Nat) : Nat := min t.toNat n
theorem torn_is (t : Int) (n : Nat) : (if (n : Int) < (if t < 0 then 0 else t) then (n : Int) else if t < 0 then 0 else t) = ((tornN t n : Nat) : Int) := by
  unfold tornN
  split <;> split <;> omega
theorem str_take (l : List UInt8) (n : Nat) : (str l).extract 0 n = str (l.take n) := by
  simp [str, ByteArray.extract_mk]
theorem cut_to (l : List UInt8) (n : Nat) (hn : n ≤ l.length) (V : World) : (Instr.slice 9 (.string (str l)) none (some (.int .i64 (n : Nat))) none).run Tryz.prog V = .ok (.string (str (l.take n))) V := by
  rw [run_slice_string_h V _ _ Tryz.underlying9 .i64 _ (by omega) (by rw [str_size]; omega), Int.toNat_natCast, str_take]
/-- Behind an Append in which the disk crashes. -/
def TornQ (x : Dk) (s xs : Nm) (W W' : World) : Prop :=
  if tornN x.torn xs.length = 0 then DiskAt x W' ∧ Chg x.ft x.ft W W' else
      ∃ f, f.bs = bytesF (x.fs s) ++ xs.take (tornN x.torn xs.length) ∧ f.syn = synF (x.fs s) ∧
        DiskAt { x with n := x.n + 1, fs := updF x.fs s (some f), used := x.used + tornN x.torn xs.length } W' ∧ Chg x.ft (Dk.ft { x with n := x.n + 1, fs := updF x.fs s (some f), used := x.used + tornN x.torn xs.length }) W W'
set_option maxRecDepth 100000 in
theorem torn_c (hc : Caps x s xs b0 b1 b2 b3 W) (h : DiskAt x W) (hf : (xs.length : Int) ≤ x.room - x.used) (hs : s.length ≤ maxLen) (hb : (bytesF (x.fs s)).length + xs.length ≤ 1000000000) (hn : x.n < 1000000) (hu : -1000000000000 ≤ x.used ∧ x.used ≤ 1000000000000) :
    Calls Tryz.prog 49 #[.pointer (some ⟨b2, 0, none⟩), .pointer (some ⟨b0, 0, none⟩), .pointer (some ⟨b3, 0, none⟩), .pointer (some ⟨b1, 0, none⟩)] W fun e W' => e = .returned (.tuple #[]) ∧
      TornQ x s xs W W' := by
  obtain ⟨k0, k1, k2, k3⟩ := hc.reads
  rw [decide_eq_true hf] at k3
  have d4 := h.reads.1.2.2.2.2.1
  have hxs := str_size xs
  have HS := Lib.hid (fun (V : World) (hV : Below W.heap.size W V) => (show V.cell? ⟨b0, 0, none⟩ = some (.pointer (some ⟨x.d, 0, none⟩)) ∧ V.cell? ⟨b2, 0, none⟩ = some (.string (str xs)) ∧ V.cell? ⟨x.d, 4, none⟩ = some (.int .i64 x.torn) from
    ⟨cell_of ((hV.block _ (lt_of hc.c0)).trans hc.c0) 0, cell_of ((hV.block _ (lt_of hc.c2)).trans hc.c2) 0, (h.below hV).reads.1.2.2.2.2.1⟩))
  obtain ⟨m, hm⟩ : ∃ m, m = tornN x.torn xs.length := ⟨_, rfl⟩
  have HC := Lib.hid (And.intro hc (And.intro h (And.intro hf (And.intro hs (And.intro hb (And.intro hn hu))))))
  clear hc h hf hs hb hn hu
  go_enter Tryz.func49, Tryz.ntmps49
  go_wp2_with fail
  have H0 : Below W.heap.size W W.drew := (Below.refl _ _).drew
  refine Drawn.start (fun V => Below W.heap.size W V) (fun _ => false) (by kernel_rfl) ?_
  refine Drawn.take 0 (some 5) (v := ?_) rfl rfl (by kernel_rfl) (by kernel_rfl) (by kernel_rfl) (by kernel_rfl) (by kernel_rfl) rfl (fun _ _ _ h => h) (Or.inl ⟨rfl, ?_⟩) H0 ?_
  rotate_left
  · intro W hW; have hW := HS.out W hW; go_simp; try with_reducible rfl
  simp only [put_list, List.set]
  refine Drawn.take 1 (some 6) (v := ?_) rfl rfl (by kernel_rfl) (by kernel_rfl) (by kernel_rfl) (by kernel_rfl) (by kernel_rfl) rfl (fun _ _ _ h => h) (Or.inl ⟨rfl, ?_⟩) H0 ?_
  rotate_left
  · intro W hW; have hW := HS.out W hW; go_simp; try with_reducible rfl
  simp only [put_list, List.set]
  refine Drawn.take 2 (some 7) (v := ?_) rfl rfl (by kernel_rfl) (by kernel_rfl) (by kernel_rfl) (by kernel_rfl) (by kernel_rfl) rfl (fun _ _ _ h => h) (Or.inl ⟨rfl, ?_⟩) H0 ?_
  rotate_left
  · intro W hW; have hW := HS.out W hW; go_simp; try with_reducible rfl
  simp only [put_list, List.set]
  refine Drawn.take 3 (some 8) (v := ?_) rfl rfl (by kernel_rfl) (by kernel_rfl) (by kernel_rfl) (by kernel_rfl) (by kernel_rfl) rfl (fun _ _ _ h => h) (Or.inl ⟨rfl, ?_⟩) H0 ?_
  rotate_left
  · intro W hW; have hW := HS.out W hW; go_simp; try with_reducible rfl
  simp only [put_list, List.set]
  refine Drawn.take 4 (some 9) (v := ?_) rfl rfl (by kernel_rfl) (by kernel_rfl) (by kernel_rfl) (by kernel_rfl) (by kernel_rfl) rfl (fun _ _ _ h => h) (Or.inl ⟨rfl, ?_⟩) H0 ?_
  rotate_left
  · intro W hW; have hW := HS.out W hW; go_simp; try with_reducible rfl
  simp only [put_list, List.set]
  refine Drawn.take 5 (some 10) (v := ?_) rfl rfl (by kernel_rfl) (by kernel_rfl) (by kernel_rfl) (by kernel_rfl) (by kernel_rfl) rfl (fun _ _ _ h => h) (Or.inl ⟨rfl, ?_⟩) H0 ?_
  rotate_left
  · intro W hW; have hW := HS.out W hW; go_simp; try with_reducible rfl
  simp only [put_list, List.set]
  refine Drawn.take 6 (some 11) (v := ?_) rfl rfl (by kernel_rfl) (by kernel_rfl) (by kernel_rfl) (by kernel_rfl) (by kernel_rfl) rfl (fun _ _ _ h => h) (Or.inl ⟨rfl, ?_⟩) H0 ?_
  rotate_left
  · intro W hW; have hW := HS.out W hW; go_simp; try with_reducible rfl
  simp only [put_list, List.set]
  refine Drawn.take 7 (some 12) (v := ?_) rfl rfl (by kernel_rfl) (by kernel_rfl) (by kernel_rfl) (by kernel_rfl) (by kernel_rfl) rfl (fun _ _ _ h => h) (Or.inl ⟨rfl, ?_⟩) H0 ?_
  rotate_left
  · intro W hW; have hW := HS.out W hW; go_simp; try with_reducible rfl
  simp only [put_list, List.set]
  refine Drawn.take 8 (some 13) (v := ?_) rfl rfl (by kernel_rfl) (by kernel_rfl) (by kernel_rfl) (by kernel_rfl) (by kernel_rfl) rfl (fun _ _ _ h => h) (Or.inl ⟨rfl, ?_⟩) H0 ?_
  rotate_left
  · intro W hW; have hW := HS.out W hW; go_simp; try with_reducible rfl
  simp only [put_list, List.set]
  rw [torn_is, ← hm]
  have hle : m ≤ xs.length := by rw [hm]; exact Nat.min_le_right _ _
  have hst := str_take xs m
  have HM := Lib.hid hm
  clear hm
  refine Drawn.take 9 (some 14) (v := ?_) rfl rfl (by kernel_rfl) (by kernel_rfl) (by kernel_rfl) (by kernel_rfl) (by kernel_rfl) rfl (fun _ _ _ h => h) (Or.inl ⟨rfl, ?_⟩) H0 ?_
  rotate_left
  · intro W hW; have hW := HS.out W hW; go_simp; try with_reducible rfl
  simp only [put_list, List.set]
  refine Drawn.take 10 (some 4) (v := ?_) rfl rfl (by kernel_rfl) (by kernel_rfl) (by kernel_rfl) (by kernel_rfl) (by kernel_rfl) rfl (fun _ _ _ h => h) (Or.inl ⟨rfl, ?_⟩) H0 ?_
  rotate_left
  · intro W hW; have hW := HS.out W hW; go_simp; try with_reducible rfl
  simp only [put_list, List.set]
  refine Drawn.done (by kernel_rfl) ?_ _
  have k3 : W.drew.cell? ⟨b3, 0, none⟩ = some (.bool true) := k3
  have k0 : W.drew.cell? ⟨b0, 0, none⟩ = some (.pointer (some ⟨x.d, 0, none⟩)) := k0
  have k1 : W.drew.cell? ⟨b1, 0, none⟩ = some (.string (str s)) := k1
  have hm := HM.out
  clear HS
  generalize (if x.torn < 0 then 0 else x.torn) = q at *
  by_cases hm0 : m = 0
  · have hn0 : tornN x.torn xs.length = 0 := by omega
    have hz : str (xs.take m) = ⟨#[]⟩ := by rw [hm0]; rfl
    rw [hz]
    have HCC := Lib.hid hn0
    clear hm hm0 hz hn0 hst hle
    go_wp2_with fail
    go_end0
    exact ⟨rfl, by unfold TornQ; rw [if_pos HCC.out]; exact ⟨HC.out.2.1.drew, Chg.of_below H0⟩⟩
  · have hn0 : ¬ tornN x.torn xs.length = 0 := by omega
    have hne : (str (xs.take m)).toList.isEmpty = false := by
      rw [ByteArray.toList_eq, str_list]
      cases hl : xs.take m with
      | nil => have := congrArg List.length hl; rw [List.length_take, List.length_nil] at this; omega
      | cons _ _ => rfl
    have hml : m ≤ xs.length := by rw [hm]; exact Nat.min_le_right _ _
    have HW := Lib.hid (write_c (xs := xs.take m) HC.out.2.1.drew HC.out.2.2.2.1 (by rw [List.length_take]; have := HC.out.2.2.2.2.1; omega) HC.out.2.2.2.2.2.1 HC.out.2.2.2.2.2.2)
    have HCC := Lib.hid hn0
    clear hm hm0 hml hst hle hn0
    generalize str (xs.take m) = z at *
    generalize str s = y at *
    go_wp2_with fail
    refine HW.out.mono ?_
    rintro e W1 ⟨rfl, f, h1, h2, h3, h4⟩
    rw [HM.out] at h1 h3 h4
    rw [show (xs.take (tornN x.torn xs.length)).length = tornN x.torn xs.length by rw [List.length_take]; exact Nat.min_eq_left (Nat.min_le_right _ _)] at h3 h4
    have HQ := Lib.hid (show ∃ f, f.bs = bytesF (x.fs s) ++ xs.take (tornN x.torn xs.length) ∧ f.syn = synF (x.fs s) ∧
        DiskAt { x with n := x.n + 1, fs := updF x.fs s (some f), used := x.used + tornN x.torn xs.length } W1 ∧ Chg x.ft (Dk.ft { x with n := x.n + 1, fs := updF x.fs s (some f), used := x.used + tornN x.torn xs.length }) W W1 from ⟨f, h1, h2, h3, h4.undrew⟩)
    clear h1 h2 h3 h4 HW
    go_wp2_with fail
    go_end0
    exact ⟨rfl, by unfold TornQ; rw [if_neg HCC.out]; exact HQ.out⟩
end
end Go.Proofs.YtialfpkmcafkmaaGreat
