/- Merged: Dkf, Dkg, Dkh, Dki. -/
import Derived.Test.YtekoaheiapddiaaGreatU02
import Derived.Test.YtekoaheiapddiaaGreatU01
section
namespace Go.Proofs.YtekoaheiapddiaaGreat.Dz
open Go.RowKit Go.Maps Go.WideElems Go.ChangeMaps Go.MapKept Go.WideMaps

/-- What the two closures of Append have captured. -/
structure Caps (x : Dk) (s xs : Nm) (b0 b1 b2 b3 : Nat) (W : World) : Prop where
  c0 : W.heap[b0]? = some (.cells #[.pointer (some ⟨x.d, 0, none⟩)] 26 (0, 0))
  c1 : W.heap[b1]? = some (.cells #[.string (str s)] 9 (0, 0))
  c2 : W.heap[b2]? = some (.cells #[.string (str xs)] 9 (0, 0))
  c3 : W.heap[b3]? = some (.cells #[.bool (decide ((xs.length : Int) ≤ x.room - x.used))] 4 (0, 0))
  far : ¬ x.ft b0 ∧ ¬ x.ft b1 ∧ ¬ x.ft b2 ∧ ¬ x.ft b3
theorem Caps.chg {x y : Dk} {s xs : Nm} {b0 b1 b2 b3 : Nat} {W W' : World} {F F' : Nat → Prop} (h : Caps x s xs b0 b1 b2 b3 W) (hc : Chg F F' W W') (h1 : ∀ k, F k → x.ft k) (hd : y.d = x.d) (hr : y.room = x.room) (hu : y.used = x.used) (hf : ∀ k, y.ft k → x.ft k) : Caps y s xs b0 b1 b2 b3 W' := by
  obtain ⟨c0, c1, c2, c3, f0, f1, f2, f3⟩ := h
  refine ⟨?_, (hc.block _ (lt_of c1) (fun h => f1 (h1 _ h))).trans c1, (hc.block _ (lt_of c2) (fun h => f2 (h1 _ h))).trans c2, ?_, fun h => f0 (hf _ h), fun h => f1 (hf _ h), fun h => f2 (hf _ h), fun h => f3 (hf _ h)⟩
  · rw [hd]; exact (hc.block _ (lt_of c0) (fun h => f0 (h1 _ h))).trans c0
  · rw [hr, hu]; exact (hc.block _ (lt_of c3) (fun h => f3 (h1 _ h))).trans c3
section
variable {x : Dk} {W : World}
set_option maxRecDepth 100000 in
theorem append_any (h : DiskAt x W) (s xs : Nm) (hu : -1000000000000 ≤ x.used ∧ x.used ≤ 1000000000000) (hr : 0 ≤ x.room ∧ x.room ≤ 1000000000000) (Q : Int → World → Prop)
    (hstep : ∀ W1 b0 b1 b2 b3, DiskAt x W1 → Below W.heap.size W W1 → Caps x s xs b0 b1 b2 b3 W1 →
      Calls Tryz.prog 250 #[.pointer (some ⟨x.d, 0, none⟩), .func (.func 247) #[] #[.pointer (some ⟨b3, 0, none⟩), .pointer (some ⟨b0, 0, none⟩), .pointer (some ⟨b1, 0, none⟩), .pointer (some ⟨b2, 0, none⟩)],
        .func (.func 249) #[] #[.pointer (some ⟨b2, 0, none⟩), .pointer (some ⟨b0, 0, none⟩), .pointer (some ⟨b3, 0, none⟩), .pointer (some ⟨b1, 0, none⟩)]] W1 fun e W' => ∃ r, e = .returned (.int .i64 r) ∧ Q r W') :
    Calls Tryz.prog 222 #[.pointer (some ⟨x.d, 0, none⟩), .string (str s), .string (str xs)] W fun e W' => ∃ r, e = .returned (.int .i64 r) ∧ Q r W' := by
  have HST := Lib.hid hstep
  have H := Lib.hid h
  have hxs := str_size xs
  have HU := Lib.hid (And.intro hu hr)
  clear h hstep hu hr
  generalize hy : str s = y at *
  generalize hz : str xs = z at *
  have HY := Lib.hid (And.intro hy hz)
  clear hy hz
  go_enter Tryz.func222, Tryz.ntmps222
  go_wp2_with fail
  obtain ⟨W3, hW3⟩ : ∃ V, V = (((W.alloc (.cells #[.pointer (some ⟨x.d, 0, none⟩)] 26)).alloc (.cells #[.string y] 9)).alloc (.cells #[.string z] 9)) := ⟨_, rfl⟩
  rw [← hW3]
  have hx3 : DiskAt x W3 := by rw [hW3]; exact ((H.out.alloc _).alloc _).alloc _
  have hb3 : Below W.heap.size W W3 := by rw [hW3]; exact (((Below.refl _ _).alloc (Nat.le_refl _) _).alloc (by simp) _).alloc (by simp; omega) _
  have s3 : W3.heap.size = W.heap.size + 1 + 1 + 1 := by rw [hW3, alloc_size, alloc_size, alloc_size]
  have k2 : W3.heap[W.heap.size + 1 + 1]? = some (.cells #[.string z] 9 (0, 0)) := by
    have h := heap_alloc_new ((W.alloc (.cells #[.pointer (some ⟨x.d, 0, none⟩)] 26)).alloc (.cells #[.string y] 9)) (.cells #[.string z] 9)
    rw [alloc_size, alloc_size] at h; rw [hW3]; exact h
  have k1 : W3.heap[W.heap.size + 1]? = some (.cells #[.string y] 9 (0, 0)) := by
    have h := heap_alloc_new (W.alloc (.cells #[.pointer (some ⟨x.d, 0, none⟩)] 26)) (.cells #[.string y] 9)
    rw [alloc_size] at h; rw [hW3, Below.heap_alloc _ _ _ (by rw [alloc_size, alloc_size]; omega)]; exact h
  have k0 : W3.heap[W.heap.size]? = some (.cells #[.pointer (some ⟨x.d, 0, none⟩)] 26 (0, 0)) := by
    rw [hW3, Below.heap_alloc _ _ _ (by rw [alloc_size, alloc_size]; omega), Below.heap_alloc _ _ _ (by rw [alloc_size]; omega)]; exact heap_alloc_new _ _
  have hfar : ∀ k, W.heap.size ≤ k → ¬ x.ft k := fun k hk hf => by have := H.out.lt hf; omega
  clear hW3
  have HF := Lib.hid hfar
  generalize W.heap.size = b0 at *
  have HK := Lib.hid (And.intro k0 (And.intro k1 (And.intro k2 (And.intro hb3 hx3))))
  have HS := Lib.hid (fun (V : World) (hV : Below W3.heap.size W3 V) => (show V.cell? ⟨b0, 0, none⟩ = some (.pointer (some ⟨x.d, 0, none⟩)) ∧ V.cell? ⟨b0 + 1 + 1, 0, none⟩ = some (.string z) ∧ V.cell? ⟨x.d, 0, none⟩ = some (.int .i64 x.room) ∧ V.cell? ⟨x.d, 2, none⟩ = some (.int .i64 x.used) from
    ⟨cell_of ((hV.block _ (lt_of k0)).trans k0) 0, cell_of ((hV.block _ (lt_of k2)).trans k2) 0, (hx3.below hV).reads.1.1, (hx3.below hV).reads.1.2.2.1⟩))
  have hwr : IntKind.i64.wrap (x.room - x.used) = x.room - x.used := IntWalk.i64_in _ ⟨by have := HU.out; omega, by have := HU.out; omega⟩
  clear k0 k1 k2 hb3 hx3 hfar
  have H0 : Below W3.heap.size W3 W3.drew := (Below.refl _ _).drew
  refine Drawn.start (fun V => Below W3.heap.size W3 V) (fun _ => false) (by kernel_rfl) ?_
  refine Drawn.take 0 (some 10) (v := ?_) rfl rfl (by kernel_rfl) (by kernel_rfl) (by kernel_rfl) (by kernel_rfl) (by kernel_rfl) rfl (fun _ _ _ h => h) (Or.inl ⟨rfl, ?_⟩) H0 ?_
  rotate_left
  · intro W hW; have hW := HS.out W hW; go_simp; try with_reducible rfl
  simp only [put_list, List.set]
  refine Drawn.take 1 (some 11) (v := ?_) rfl rfl (by kernel_rfl) (by kernel_rfl) (by kernel_rfl) (by kernel_rfl) (by kernel_rfl) rfl (fun _ _ _ h => h) (Or.inl ⟨rfl, ?_⟩) H0 ?_
  rotate_left
  · intro W hW; have hW := HS.out W hW; go_simp; try with_reducible rfl
  simp only [put_list, List.set]
  refine Drawn.take 2 (some 12) (v := ?_) rfl rfl (by kernel_rfl) (by kernel_rfl) (by kernel_rfl) (by kernel_rfl) (by kernel_rfl) rfl (fun _ _ _ h => h) (Or.inl ⟨rfl, ?_⟩) H0 ?_
  rotate_left
  · intro W hW; have hW := HS.out W hW; go_simp; try with_reducible rfl
  simp only [put_list, List.set]
  refine Drawn.take 3 (some 13) (v := ?_) rfl rfl (by kernel_rfl) (by kernel_rfl) (by kernel_rfl) (by kernel_rfl) (by kernel_rfl) rfl (fun _ _ _ h => h) (Or.inl ⟨rfl, ?_⟩) H0 ?_
  rotate_left
  · intro W hW; have hW := HS.out W hW; go_simp; try with_reducible rfl
  simp only [put_list, List.set]
  refine Drawn.take 4 (some 14) (v := ?_) rfl rfl (by kernel_rfl) (by kernel_rfl) (by kernel_rfl) (by kernel_rfl) (by kernel_rfl) rfl (fun _ _ _ h => h) (Or.inl ⟨rfl, ?_⟩) H0 ?_
  rotate_left
  · intro W hW; have hW := HS.out W hW; go_simp; try with_reducible rfl
  simp only [put_list, List.set]
  refine Drawn.take 5 (some 15) (v := ?_) rfl rfl (by kernel_rfl) (by kernel_rfl) (by kernel_rfl) (by kernel_rfl) (by kernel_rfl) rfl (fun _ _ _ h => h) (Or.inl ⟨rfl, ?_⟩) H0 ?_
  rotate_left
  · intro W hW; have hW := HS.out W hW; go_simp; try with_reducible rfl
  simp only [put_list, List.set]
  refine Drawn.take 6 (some 16) (v := ?_) rfl rfl (by kernel_rfl) (by kernel_rfl) (by kernel_rfl) (by kernel_rfl) (by kernel_rfl) rfl (fun _ _ _ h => h) (Or.inl ⟨rfl, ?_⟩) H0 ?_
  rotate_left
  · intro W hW; have hW := HS.out W hW; go_simp; try with_reducible rfl
  simp only [put_list, List.set]
  refine Drawn.take 7 (some 17) (v := ?_) rfl rfl (by kernel_rfl) (by kernel_rfl) (by kernel_rfl) (by kernel_rfl) (by kernel_rfl) rfl (fun _ _ _ h => h) (Or.inl ⟨rfl, ?_⟩) H0 ?_
  rotate_left
  · intro W hW; have hW := HS.out W hW; go_simp; try with_reducible rfl
  simp only [put_list, List.set]
  refine Drawn.take 8 (some 18) (v := ?_) rfl rfl (by kernel_rfl) (by kernel_rfl) (by kernel_rfl) (by kernel_rfl) (by kernel_rfl) rfl (fun _ _ _ h => h) (Or.inl ⟨rfl, ?_⟩) H0 ?_
  rotate_left
  · intro W hW; have hW := HS.out W hW; go_simp; try with_reducible rfl
  simp only [put_list, List.set]
  refine Drawn.take 9 (some 19) (v := ?_) rfl rfl (by kernel_rfl) (by kernel_rfl) (by kernel_rfl) (by kernel_rfl) (by kernel_rfl) rfl (fun _ _ _ h => h) (Or.inl ⟨rfl, ?_⟩) H0 ?_
  rotate_left
  · intro W hW; have hW := HS.out W hW; go_simp; try with_reducible rfl
  simp only [put_list, List.set]
  refine Drawn.take 10 (some 20) (v := ?_) rfl rfl (by kernel_rfl) (by kernel_rfl) (by kernel_rfl) (by kernel_rfl) (by kernel_rfl) rfl (fun _ _ _ h => h) (Or.inl ⟨rfl, ?_⟩) H0 ?_
  rotate_left
  · intro W hW; have hW := HS.out W hW; go_simp; try with_reducible rfl
  simp only [put_list, List.set]
  refine Drawn.take 11 (some 21) (v := ?_) rfl rfl (by kernel_rfl) (by kernel_rfl) (by kernel_rfl) (by kernel_rfl) (by kernel_rfl) rfl (fun _ _ _ h => h) (Or.inl ⟨rfl, ?_⟩) H0 ?_
  rotate_left
  · intro W hW; have hW := HS.out W hW; go_simp; try with_reducible rfl
  simp only [put_list, List.set]
  refine Drawn.only 12 (by kernel_rfl) rfl rfl (fun K hK => ?_)
  go_simp
  refine hK _ _ (fun _ _ => H0.alloc (Nat.le_refl _) _) ?_
  clear hK K
  try simp only [put_list, List.set]
  refine Drawn.only 13 (by kernel_rfl) rfl rfl (fun K hK => ?_)
  go_simp
  have H1 : Below W3.heap.size W3 (W3.alloc (.cells #[.bool (decide ((xs.length : Int) ≤ x.room - x.used))] 4)).drew := H0.alloc (Nat.le_refl _) _
  refine hK _ _ (fun _ _ => H1) ?_
  clear hK K
  refine Drawn.done (by kernel_rfl) ?_ _
  obtain ⟨W4, hW4⟩ : ∃ V, V = (W3.alloc (.cells #[.bool (decide ((xs.length : Int) ≤ x.room - x.used))] 4)).drew := ⟨_, rfl⟩
  have k3 : W4.heap[b0 + 1 + 1 + 1]? = some (.cells #[.bool (decide ((xs.length : Int) ≤ x.room - x.used))] 4 (0, 0)) := by
    rw [hW4, ← s3]; exact heap_alloc_new W3 _
  rw [← hW4] at H1 ⊢
  have d3 : W4.cell? ⟨b0, 0, none⟩ = some (.pointer (some ⟨x.d, 0, none⟩)) := cell_of ((H1.block _ (lt_of HK.out.1)).trans HK.out.1) 0
  have HC : Caps x s xs b0 (b0 + 1) (b0 + 1 + 1) (b0 + 1 + 1 + 1) W4 := by
    obtain ⟨k0, k1, k2, _⟩ := HK.out
    refine ⟨(H1.block _ (lt_of k0)).trans k0, ?_, ?_, k3, HF.out _ (by omega), HF.out _ (by omega), HF.out _ (by omega), HF.out _ (by omega)⟩
    · rw [HY.out.1]; exact (H1.block _ (lt_of k1)).trans k1
    · rw [HY.out.2]; exact (H1.block _ (lt_of k2)).trans k2
  have HG := Lib.hid (HST.out W4 _ _ _ _ (HK.out.2.2.2.2.below H1) (HK.out.2.2.2.1.trans (H1.mono (by omega))) HC)
  clear H1 hW4 k3 HC HST HS H0
  go_wp2_with fail
  refine HG.out.mono ?_
  rintro e W5 ⟨r, rfl, hq⟩
  have HQ := Lib.hid hq
  clear hq
  go_wp2_with fail
  go_ret
  exact ⟨_, rfl, HQ.out⟩
end
end Go.Proofs.YtekoaheiapddiaaGreat.Dz
end
section
namespace Go.Proofs.YtekoaheiapddiaaGreat.Dz
open Go.RowKit Go.Maps Go.WideElems Go.ChangeMaps Go.MapKept Go.WideMaps
section
variable {x : Dk} {W : World} {s xs : Nm} {b0 b1 b2 b3 : Nat}
theorem Caps.reads (h : Caps x s xs b0 b1 b2 b3 W) : W.cell? ⟨b0, 0, none⟩ = some (.pointer (some ⟨x.d, 0, none⟩)) ∧ W.cell? ⟨b1, 0, none⟩ = some (.string (str s)) ∧ W.cell? ⟨b2, 0, none⟩ = some (.string (str xs)) ∧ W.cell? ⟨b3, 0, none⟩ = some (.bool (decide ((xs.length : Int) ≤ x.room - x.used))) :=
  ⟨cell_of h.c0 0, cell_of h.c1 0, cell_of h.c2 0, cell_of h.c3 0⟩
set_option maxRecDepth 100000 in
theorem whole_full (hc : Caps x s xs b0 b1 b2 b3 W) (hn : ¬ (xs.length : Int) ≤ x.room - x.used) :
    Calls Tryz.prog 247 #[.pointer (some ⟨b3, 0, none⟩), .pointer (some ⟨b0, 0, none⟩), .pointer (some ⟨b1, 0, none⟩), .pointer (some ⟨b2, 0, none⟩)] W fun e W' => e = .returned (.int .i64 5) ∧ W' = W := by
  obtain ⟨_, _, _, k3⟩ := hc.reads
  rw [decide_eq_false hn] at k3
  clear hc hn
  go_enter Tryz.func247, Tryz.ntmps247
  go_wp2_with fail
  go_ret
  exact ⟨rfl, rfl⟩
set_option maxRecDepth 100000 in
theorem whole_fits (hc : Caps x s xs b0 b1 b2 b3 W) (h : DiskAt x W) (hf : (xs.length : Int) ≤ x.room - x.used) (hs : s.length ≤ maxLen) (hb : (bytesF (x.fs s)).length + xs.length ≤ 1000000000) (hn : x.n < 1000000) (hu : -1000000000000 ≤ x.used ∧ x.used ≤ 1000000000000) :
    Calls Tryz.prog 247 #[.pointer (some ⟨b3, 0, none⟩), .pointer (some ⟨b0, 0, none⟩), .pointer (some ⟨b1, 0, none⟩), .pointer (some ⟨b2, 0, none⟩)] W fun e W' => e = .returned (.int .i64 0) ∧ ∃ f, f.bs = bytesF (x.fs s) ++ xs ∧ f.syn = synF (x.fs s) ∧
      DiskAt { x with n := x.n + 1, fs := updF x.fs s (some f), used := x.used + xs.length } W' ∧ Chg x.ft (Dk.ft { x with n := x.n + 1, fs := updF x.fs s (some f), used := x.used + xs.length }) W W' := by
  obtain ⟨k0, k1, k2, k3⟩ := hc.reads
  rw [decide_eq_true hf] at k3
  have HW := Lib.hid (write_c h hs hb hn hu)
  clear hc hf h hs hb hn hu
  generalize str s = y at *
  generalize str xs = z at *
  go_enter Tryz.func247, Tryz.ntmps247
  go_wp2_with fail
  refine HW.out.mono ?_
  rintro e W1 ⟨rfl, hq⟩
  have HQ := Lib.hid hq
  clear hq
  go_wp2_with fail
  go_ret
  exact ⟨rfl, HQ.out⟩
/-- What is torn off. -/
def tornN (t : Int) (n : Nat) : Nat := min t.toNat n
theorem torn_is (t : Int) (n : Nat) : (if (n : Int) < (if t < 0 then 0 else t) then (n : Int) else if t < 0 then 0 else t) = ((tornN t n : Nat) : Int) := by
  unfold tornN
  split <;> split <;> omega
theorem str_take (l : List UInt8) (n : Nat) : (str l).extract 0 n = str (l.take n) := by
  simp [str, ByteArray.extract_mk]
theorem cut_to (l : List UInt8) (n : Nat) (hn : n ≤ l.length) (V : World) : (Instr.slice 9 (.string (str l)) none (some (.int .i64 (n : Nat))) none).run Tryz.prog V = .ok (.string (str (l.take n))) V := by
  rw [run_slice_string_h V _ _ Tryz.underlying9 .i64 _ (by omega) (by rw [str_size]; omega), Int.toNat_natCast, str_take]
/-- Behind an Append in which the disk crashes. -/
def TornQ (x : Dk) (s xs : Nm) (W W' : World) : Prop :=
  if tornN x.torn xs.length = 0 then DiskAt x W' ∧ Chg x.ft x.ft W W' else
      ∃ f, f.bs = bytesF (x.fs s) ++ xs.take (tornN x.torn xs.length) ∧ f.syn = synF (x.fs s) ∧
        DiskAt { x with n := x.n + 1, fs := updF x.fs s (some f), used := x.used + tornN x.torn xs.length } W' ∧ Chg x.ft (Dk.ft { x with n := x.n + 1, fs := updF x.fs s (some f), used := x.used + tornN x.torn xs.length }) W W'
set_option maxRecDepth 100000 in
theorem torn_c (hc : Caps x s xs b0 b1 b2 b3 W) (h : DiskAt x W) (hf : (xs.length : Int) ≤ x.room - x.used) (hs : s.length ≤ maxLen) (hb : (bytesF (x.fs s)).length + xs.length ≤ 1000000000) (hn : x.n < 1000000) (hu : -1000000000000 ≤ x.used ∧ x.used ≤ 1000000000000) :
    Calls Tryz.prog 249 #[.pointer (some ⟨b2, 0, none⟩), .pointer (some ⟨b0, 0, none⟩), .pointer (some ⟨b3, 0, none⟩), .pointer (some ⟨b1, 0, none⟩)] W fun e W' => e = .returned (.tuple #[]) ∧
      TornQ x s xs W W' := by
  obtain ⟨k0, k1, k2, k3⟩ := hc.reads
  rw [decide_eq_true hf] at k3
  have d4 := h.reads.1.2.2.2.2.1
  have hxs := str_size xs
  have HS := Lib.hid (fun (V : World) (hV : Below W.heap.size W V) => (show V.cell? ⟨b0, 0, none⟩ = some (.pointer (some ⟨x.d, 0, none⟩)) ∧ V.cell? ⟨b2, 0, none⟩ = some (.string (str xs)) ∧ V.cell? ⟨x.d, 4, none⟩ = some (.int .i64 x.torn) from
    ⟨cell_of ((hV.block _ (lt_of hc.c0)).trans hc.c0) 0, cell_of ((hV.block _ (lt_of hc.c2)).trans hc.c2) 0, (h.below hV).reads.1.2.2.2.2.1⟩))
  obtain ⟨m, hm⟩ : ∃ m, m = tornN x.torn xs.length := ⟨_, rfl⟩
  have HC := Lib.hid (And.intro hc (And.intro h (And.intro hf (And.intro hs (And.intro hb (And.intro hn hu))))))
  clear hc h hf hs hb hn hu
  go_enter Tryz.func249, Tryz.ntmps249
  go_wp2_with fail
  have H0 : Below W.heap.size W W.drew := (Below.refl _ _).drew
  refine Drawn.start (fun V => Below W.heap.size W V) (fun _ => false) (by kernel_rfl) ?_
  refine Drawn.take 0 (some 5) (v := ?_) rfl rfl (by kernel_rfl) (by kernel_rfl) (by kernel_rfl) (by kernel_rfl) (by kernel_rfl) rfl (fun _ _ _ h => h) (Or.inl ⟨rfl, ?_⟩) H0 ?_
  rotate_left
  · intro W hW; have hW := HS.out W hW; go_simp; try with_reducible rfl
  simp only [put_list, List.set]
  refine Drawn.take 1 (some 6) (v := ?_) rfl rfl (by kernel_rfl) (by kernel_rfl) (by kernel_rfl) (by kernel_rfl) (by kernel_rfl) rfl (fun _ _ _ h => h) (Or.inl ⟨rfl, ?_⟩) H0 ?_
  rotate_left
  · intro W hW; have hW := HS.out W hW; go_simp; try with_reducible rfl
  simp only [put_list, List.set]
  refine Drawn.take 2 (some 7) (v := ?_) rfl rfl (by kernel_rfl) (by kernel_rfl) (by kernel_rfl) (by kernel_rfl) (by kernel_rfl) rfl (fun _ _ _ h => h) (Or.inl ⟨rfl, ?_⟩) H0 ?_
  rotate_left
  · intro W hW; have hW := HS.out W hW; go_simp; try with_reducible rfl
  simp only [put_list, List.set]
  refine Drawn.take 3 (some 8) (v := ?_) rfl rfl (by kernel_rfl) (by kernel_rfl) (by kernel_rfl) (by kernel_rfl) (by kernel_rfl) rfl (fun _ _ _ h => h) (Or.inl ⟨rfl, ?_⟩) H0 ?_
  rotate_left
  · intro W hW; have hW := HS.out W hW; go_simp; try with_reducible rfl
  simp only [put_list, List.set]
  refine Drawn.take 4 (some 9) (v := ?_) rfl rfl (by kernel_rfl) (by kernel_rfl) (by kernel_rfl) (by kernel_rfl) (by kernel_rfl) rfl (fun _ _ _ h => h) (Or.inl ⟨rfl, ?_⟩) H0 ?_
  rotate_left
  · intro W hW; have hW := HS.out W hW; go_simp; try with_reducible rfl
  simp only [put_list, List.set]
  refine Drawn.take 5 (some 10) (v := ?_) rfl rfl (by kernel_rfl) (by kernel_rfl) (by kernel_rfl) (by kernel_rfl) (by kernel_rfl) rfl (fun _ _ _ h => h) (Or.inl ⟨rfl, ?_⟩) H0 ?_
  rotate_left
  · intro W hW; have hW := HS.out W hW; go_simp; try with_reducible rfl
  simp only [put_list, List.set]
  refine Drawn.take 6 (some 11) (v := ?_) rfl rfl (by kernel_rfl) (by kernel_rfl) (by kernel_rfl) (by kernel_rfl) (by kernel_rfl) rfl (fun _ _ _ h => h) (Or.inl ⟨rfl, ?_⟩) H0 ?_
  rotate_left
  · intro W hW; have hW := HS.out W hW; go_simp; try with_reducible rfl
  simp only [put_list, List.set]
  refine Drawn.take 7 (some 12) (v := ?_) rfl rfl (by kernel_rfl) (by kernel_rfl) (by kernel_rfl) (by kernel_rfl) (by kernel_rfl) rfl (fun _ _ _ h => h) (Or.inl ⟨rfl, ?_⟩) H0 ?_
  rotate_left
  · intro W hW; have hW := HS.out W hW; go_simp; try with_reducible rfl
  simp only [put_list, List.set]
  refine Drawn.take 8 (some 13) (v := ?_) rfl rfl (by kernel_rfl) (by kernel_rfl) (by kernel_rfl) (by kernel_rfl) (by kernel_rfl) rfl (fun _ _ _ h => h) (Or.inl ⟨rfl, ?_⟩) H0 ?_
  rotate_left
  · intro W hW; have hW := HS.out W hW; go_simp; try with_reducible rfl
  simp only [put_list, List.set]
  rw [torn_is, ← hm]
  have hle : m ≤ xs.length := by rw [hm]; exact Nat.min_le_right _ _
  have hst := str_take xs m
  have HM := Lib.hid hm
  clear hm
  refine Drawn.take 9 (some 14) (v := ?_) rfl rfl (by kernel_rfl) (by kernel_rfl) (by kernel_rfl) (by kernel_rfl) (by kernel_rfl) rfl (fun _ _ _ h => h) (Or.inl ⟨rfl, ?_⟩) H0 ?_
  rotate_left
  · intro W hW; have hW := HS.out W hW; go_simp; try with_reducible rfl
  simp only [put_list, List.set]
  refine Drawn.take 10 (some 4) (v := ?_) rfl rfl (by kernel_rfl) (by kernel_rfl) (by kernel_rfl) (by kernel_rfl) (by kernel_rfl) rfl (fun _ _ _ h => h) (Or.inl ⟨rfl, ?_⟩) H0 ?_
  rotate_left
  · intro W hW; have hW := HS.out W hW; go_simp; try with_reducible rfl
  simp only [put_list, List.set]
  refine Drawn.done (by kernel_rfl) ?_ _
  have k3 : W.drew.cell? ⟨b3, 0, none⟩ = some (.bool true) := k3
  have k0 : W.drew.cell? ⟨b0, 0, none⟩ = some (.pointer (some ⟨x.d, 0, none⟩)) := k0
  have k1 : W.drew.cell? ⟨b1, 0, none⟩ = some (.string (str s)) := k1
  have hm := HM.out
  clear HS
  generalize (if x.torn < 0 then 0 else x.torn) = q at *
  by_cases hm0 : m = 0
  · have hn0 : tornN x.torn xs.length = 0 := by omega
    have hz : str (xs.take m) = ⟨#[]⟩ := by rw [hm0]; rfl
    rw [hz]
    have HCC := Lib.hid hn0
    clear hm hm0 hz hn0 hst hle
    go_wp2_with fail
    go_end0
    exact ⟨rfl, by unfold TornQ; rw [if_pos HCC.out]; exact ⟨HC.out.2.1.drew, Chg.of_below H0⟩⟩
  · have hn0 : ¬ tornN x.torn xs.length = 0 := by omega
    have hne : (str (xs.take m)).toList.isEmpty = false := by
      rw [ByteArray.toList_eq, str_list]
      cases hl : xs.take m with
      | nil => have := congrArg List.length hl; rw [List.length_take, List.length_nil] at this; omega
      | cons _ _ => rfl
    have hml : m ≤ xs.length := by rw [hm]; exact Nat.min_le_right _ _
    have HW := Lib.hid (write_c (xs := xs.take m) HC.out.2.1.drew HC.out.2.2.2.1 (by rw [List.length_take]; have := HC.out.2.2.2.2.1; omega) HC.out.2.2.2.2.2.1 HC.out.2.2.2.2.2.2)
    have HCC := Lib.hid hn0
    clear hm hm0 hml hst hle hn0
    generalize str (xs.take m) = z at *
    generalize str s = y at *
    go_wp2_with fail
    refine HW.out.mono ?_
    rintro e W1 ⟨rfl, f, h1, h2, h3, h4⟩
    rw [HM.out] at h1 h3 h4
    rw [show (xs.take (tornN x.torn xs.length)).length = tornN x.torn xs.length by rw [List.length_take]; exact Nat.min_eq_left (Nat.min_le_right _ _)] at h3 h4
    have HQ := Lib.hid (show ∃ f, f.bs = bytesF (x.fs s) ++ xs.take (tornN x.torn xs.length) ∧ f.syn = synF (x.fs s) ∧
        DiskAt { x with n := x.n + 1, fs := updF x.fs s (some f), used := x.used + tornN x.torn xs.length } W1 ∧ Chg x.ft (Dk.ft { x with n := x.n + 1, fs := updF x.fs s (some f), used := x.used + tornN x.torn xs.length }) W W1 from ⟨f, h1, h2, h3, h4.undrew⟩)
    clear h1 h2 h3 h4 HW
    go_wp2_with fail
    go_end0
    exact ⟨rfl, by unfold TornQ; rw [if_neg HCC.out]; exact HQ.out⟩
end
end Go.Proofs.YtekoaheiapddiaaGreat.Dz
end
section
namespace Go.Proofs.YtekoaheiapddiaaGreat.Dz
open Go.RowKit Go.Maps Go.WideElems Go.ChangeMaps Go.MapKept Go.WideMaps
section
variable {x : Dk} {W : World} {s xs : Nm}
theorem enter_whole (a b c d : Value) (w : World) : (callFunc 247 #[a, b, c, d]).run Tryz.prog w = .ok (.enter 247 #[a, b, c, d]) w := by kernel_rfl
theorem enter_torn (a b c d : Value) (w : World) : (callFunc 249 #[a, b, c, d]).run Tryz.prog w = .ok (.enter 249 #[a, b, c, d]) w := by kernel_rfl
/-- Sizes that a disk's numbers keep to. -/
structure Fine (x : Dk) : Prop where
  room : 0 ≤ x.room ∧ x.room ≤ 1000000000
  used : 0 ≤ x.used ∧ x.used ≤ 1000000000
  after : -9223372036854775808 ≤ x.after ∧ x.after ≤ 9223372036854775807
  n : x.n < 1000000
/-- How many steps are left behind one. -/
def Dk.tick (x : Dk) : Dk := { x with after := if 0 < x.after then x.after - 1 else x.after }
theorem append_dead (h : DiskAt x W) (hd : x.dead = true) (hx : Fine x) : Calls Tryz.prog 222 #[.pointer (some ⟨x.d, 0, none⟩), .string (str s), .string (str xs)] W fun e W' => e = .returned (.int .i64 19) ∧ DiskAt x W' ∧ Chg x.ft x.ft W W' := by
  refine (append_any h s xs ⟨by have := hx.used; omega, by have := hx.used; omega⟩ ⟨hx.room.1, by have := hx.room; omega⟩ (fun r W' => r = 19 ∧ DiskAt x W' ∧ Chg x.ft x.ft W W') fun W1 b0 b1 b2 b3 h1 hb hc => ?_).mono ?_
  · refine (step_dead h1 hd _ _).mono ?_
    rintro e W2 ⟨rfl, rfl⟩
    exact ⟨_, rfl, rfl, h1, Chg.of_below hb⟩
  · rintro e W2 ⟨r, rfl, rfl, hq⟩
    exact ⟨rfl, hq⟩
theorem append_crash (h : DiskAt x W) (hd : x.dead = false) (ha : x.after = 0) (hx : Fine x) (hf : (xs.length : Int) ≤ x.room - x.used) (hs : s.length ≤ maxLen) (hb : (bytesF (x.fs s)).length + xs.length ≤ 1000000000) :
    Calls Tryz.prog 222 #[.pointer (some ⟨x.d, 0, none⟩), .string (str s), .string (str xs)] W fun e W' => e = .returned (.int .i64 19) ∧ TornQ { x with dead := true } s xs W W' := by
  refine (append_any h s xs ⟨by have := hx.used; omega, by have := hx.used; omega⟩ ⟨hx.room.1, by have := hx.room; omega⟩ (fun r W' => r = 19 ∧ TornQ { x with dead := true } s xs W W') fun W1 b0 b1 b2 b3 h1 hb1 hc => ?_).mono ?_
  · refine (step_crash h1 hd ha _ _ _ (enter_torn _ _ _ _) (TornQ { x with dead := true } s xs W) fun W2 h2 hc2 => ?_).mono ?_
    · refine (torn_c (hc.chg (y := { x with dead := true }) hc2 (fun _ h => h) rfl rfl rfl (fun _ h => h)) h2 hf hs hb hx.n ⟨by have := hx.used; simp; omega, by have := hx.used; simp; omega⟩).mono ?_
      rintro e W3 ⟨rfl, hq⟩
      refine ⟨rfl, ?_⟩
      have h12 : Chg x.ft x.ft W W2 := (Chg.of_below hb1).trans hc2
      unfold TornQ at hq ⊢
      split
      · rename_i h0; rw [if_pos h0] at hq; exact ⟨hq.1, h12.trans hq.2⟩
      · rename_i h0; rw [if_neg h0] at hq
        obtain ⟨f, q1, q2, q3, q4⟩ := hq
        exact ⟨f, q1, q2, q3, h12.trans q4⟩
    · rintro e W2 ⟨rfl, hq⟩
      exact ⟨_, rfl, rfl, hq⟩
  · rintro e W2 ⟨r, rfl, rfl, hq⟩
    exact ⟨rfl, hq⟩
theorem append_full (h : DiskAt x W) (hd : x.dead = false) (ha : x.after ≠ 0) (hx : Fine x) (hf : ¬ (xs.length : Int) ≤ x.room - x.used) :
    Calls Tryz.prog 222 #[.pointer (some ⟨x.d, 0, none⟩), .string (str s), .string (str xs)] W fun e W' => e = .returned (.int .i64 5) ∧ DiskAt x.tick W' ∧ Chg x.ft x.ft W W' := by
  refine (append_any h s xs ⟨by have := hx.used; omega, by have := hx.used; omega⟩ ⟨hx.room.1, by have := hx.room; omega⟩ (fun r W' => r = 5 ∧ DiskAt x.tick W' ∧ Chg x.ft x.ft W W') fun W1 b0 b1 b2 b3 h1 hb1 hc => ?_).mono ?_
  · refine step_whole h1 hd ha hx.after _ _ _ (enter_whole _ _ _ _) _ fun W2 h2 hc2 => ?_
    refine (whole_full (hc.chg (y := x.tick) hc2 (fun _ h => h) rfl rfl rfl (fun _ h => h)) hf).mono ?_
    rintro e W3 ⟨rfl, rfl⟩
    exact ⟨_, rfl, rfl, h2, (Chg.of_below hb1).trans hc2⟩
  · rintro e W2 ⟨r, rfl, rfl, hq⟩
    exact ⟨rfl, hq⟩
/-- What stands on a disk behind an Append. -/
def Dk.put (x : Dk) (s : Nm) (f : Fl) (n : Nat) : Dk := { x with n := x.n + 1, fs := updF x.fs s (some f), used := x.used + n }
theorem append_fits (h : DiskAt x W) (hd : x.dead = false) (ha : x.after ≠ 0) (hx : Fine x) (hf : (xs.length : Int) ≤ x.room - x.used) (hs : s.length ≤ maxLen) (hb : (bytesF (x.fs s)).length + xs.length ≤ 1000000000) :
    Calls Tryz.prog 222 #[.pointer (some ⟨x.d, 0, none⟩), .string (str s), .string (str xs)] W fun e W' => e = .returned (.int .i64 0) ∧ ∃ f, f.bs = bytesF (x.fs s) ++ xs ∧ f.syn = synF (x.fs s) ∧ DiskAt (x.tick.put s f xs.length) W' ∧ Chg x.ft (x.tick.put s f xs.length).ft W W' := by
  refine (append_any h s xs ⟨by have := hx.used; omega, by have := hx.used; omega⟩ ⟨hx.room.1, by have := hx.room; omega⟩ (fun r W' => r = 0 ∧ ∃ f, f.bs = bytesF (x.fs s) ++ xs ∧ f.syn = synF (x.fs s) ∧ DiskAt (x.tick.put s f xs.length) W' ∧ Chg x.ft (x.tick.put s f xs.length).ft W W') fun W1 b0 b1 b2 b3 h1 hb1 hc => ?_).mono ?_
  · refine step_whole h1 hd ha hx.after _ _ _ (enter_whole _ _ _ _) _ fun W2 h2 hc2 => ?_
    refine (whole_fits (hc.chg (y := x.tick) hc2 (fun _ h => h) rfl rfl rfl (fun _ h => h)) h2 hf hs hb hx.n ⟨by have := hx.used; show (-1000000000000 : Int) ≤ x.used; omega, by have := hx.used; show x.used ≤ (1000000000000 : Int); omega⟩).mono ?_
    rintro e W3 ⟨rfl, f, q1, q2, q3, q4⟩
    exact ⟨_, rfl, rfl, f, q1, q2, q3, ((Chg.of_below hb1).trans hc2).trans q4⟩
  · rintro e W2 ⟨r, rfl, rfl, hq⟩
    exact ⟨rfl, hq⟩
end
end Go.Proofs.YtekoaheiapddiaaGreat.Dz
end
section
namespace Go.Proofs.YtekoaheiapddiaaGreat.Dz
open Go.RowKit Go.Maps Go.WideElems Go.ChangeMaps Go.MapKept Go.WideMaps
section
variable {x : Dk} {W : World} {s : Nm} {b0 b1 b2 : Nat} {dv : Value}
/-- What the closure of change has captured. -/
structure Capc (x : Dk) (s : Nm) (dv : Value) (b0 b1 b2 : Nat) (W : World) : Prop where
  c0 : W.heap[b0]? = some (.cells #[.pointer (some ⟨x.d, 0, none⟩)] 26 (0, 0))
  c1 : W.heap[b1]? = some (.cells #[.string (str s)] 9 (0, 0))
  c2 : W.heap[b2]? = some (.cells #[dv] 331 (0, 0))
  far : ¬ x.ft b0 ∧ ¬ x.ft b1 ∧ ¬ x.ft b2
theorem Capc.chg {y : Dk} {W' : World} {F F' : Nat → Prop} (h : Capc x s dv b0 b1 b2 W) (hc : Chg F F' W W') (h1 : ∀ k, F k → x.ft k) (hd : y.d = x.d) (hf : ∀ k, y.ft k → x.ft k) : Capc y s dv b0 b1 b2 W' := by
  obtain ⟨c0, c1, c2, f0, f1, f2⟩ := h
  refine ⟨?_, (hc.block _ (lt_of c1) (fun h => f1 (h1 _ h))).trans c1, (hc.block _ (lt_of c2) (fun h => f2 (h1 _ h))).trans c2, fun h => f0 (hf _ h), fun h => f1 (hf _ h), fun h => f2 (hf _ h)⟩
  rw [hd]; exact (hc.block _ (lt_of c0) (fun h => f0 (h1 _ h))).trans c0
theorem enter_change (a b c : Value) (w : World) : (callFunc 268 #[a, b, c]).run Tryz.prog w = .ok (.enter 268 #[a, b, c]) w := by kernel_rfl
set_option maxRecDepth 100000 in
theorem change_any (h : DiskAt x W) (s : Nm) (nd : FuncId) (dc : Array Value) (Q : Int → World → Prop)
    (hstep : ∀ W1 b0 b1 b2, DiskAt x W1 → Below W.heap.size W W1 → Capc x s (.func (.func nd) #[] dc) b0 b1 b2 W1 →
      Calls Tryz.prog 250 #[.pointer (some ⟨x.d, 0, none⟩), .func (.func 268) #[] #[.pointer (some ⟨b0, 0, none⟩), .pointer (some ⟨b1, 0, none⟩), .pointer (some ⟨b2, 0, none⟩)],
        .func (.func 269) #[] #[]] W1 fun e W' => ∃ r, e = .returned (.int .i64 r) ∧ Q r W') :
    Calls Tryz.prog 251 #[.pointer (some ⟨x.d, 0, none⟩), .string (str s), .func (.func nd) #[] dc] W fun e W' => ∃ r, e = .returned (.int .i64 r) ∧ Q r W' := by
  have HST := Lib.hid hstep
  have H := Lib.hid h
  clear h hstep
  generalize hy : str s = y at *
  have HY := Lib.hid hy
  clear hy
  go_enter Tryz.func251, Tryz.ntmps251
  go_wp2_with fail
  obtain ⟨W3, hW3⟩ : ∃ V, V = (((W.alloc (.cells #[.pointer (some ⟨x.d, 0, none⟩)] 26)).alloc (.cells #[.string y] 9)).alloc (.cells #[.func (.func nd) #[] dc] 331)) := ⟨_, rfl⟩
  rw [← hW3]
  have HC : DiskAt x W3 ∧ Below W.heap.size W W3 ∧ Capc x s (.func (.func nd) #[] dc) W.heap.size (W.heap.size + 1) (W.heap.size + 1 + 1) W3 := by
    rw [hW3]
    have hfar : ∀ k, W.heap.size ≤ k → ¬ x.ft k := fun k hk hf => by have := H.out.lt hf; omega
    refine ⟨((H.out.alloc _).alloc _).alloc _, (((Below.refl _ _).alloc (Nat.le_refl _) _).alloc (by simp) _).alloc (by simp; omega) _, ⟨?_, ?_, ?_, hfar _ (by omega), hfar _ (by omega), hfar _ (by omega)⟩⟩
    · rw [Below.heap_alloc _ _ _ (by rw [alloc_size, alloc_size]; omega), Below.heap_alloc _ _ _ (by rw [alloc_size]; omega)]; exact heap_alloc_new _ _
    · rw [HY.out]
      have h := heap_alloc_new (W.alloc (.cells #[.pointer (some ⟨x.d, 0, none⟩)] 26)) (.cells #[.string y] 9)
      rw [alloc_size] at h; rw [Below.heap_alloc _ _ _ (by rw [alloc_size, alloc_size]; omega)]; exact h
    · have h := heap_alloc_new ((W.alloc (.cells #[.pointer (some ⟨x.d, 0, none⟩)] 26)).alloc (.cells #[.string y] 9)) (.cells #[.func (.func nd) #[] dc] 331)
      rw [alloc_size, alloc_size] at h; exact h
  have HG := Lib.hid (HST.out W3 _ _ _ HC.1 HC.2.1 HC.2.2)
  clear hW3 HC HST
  refine HG.out.mono ?_
  rintro e W5 ⟨r, rfl, hq⟩
  have HQ := Lib.hid hq
  clear hq
  go_wp2_with fail
  go_ret
  exact ⟨_, rfl, HQ.out⟩
theorem chg1_reads (hc : Capc x s dv b0 b1 b2 W) (h : DiskAt x W) (hs : s.length ≤ maxLen) (V : World) (hV : Below W.heap.size W V) : V.cell? ⟨b0, 0, none⟩ = some (.pointer (some ⟨x.d, 0, none⟩)) ∧ V.cell? ⟨b1, 0, none⟩ = some (.string (str s)) ∧ V.cell? ⟨b2, 0, none⟩ = some dv ∧
    V.cell? ⟨x.d, 1, none⟩ = some (.map (some x.m)) ∧ (Instr.lookup 109 (.map (some x.m)) (.string (str s)) false).run Tryz.prog V = .ok (ptrF (x.fs s)) V :=
  ⟨cell_of ((hV.block _ (lt_of hc.c0)).trans hc.c0) 0, cell_of ((hV.block _ (lt_of hc.c1)).trans hc.c1) 0, cell_of ((hV.block _ (lt_of hc.c2)).trans hc.c2) 0, (h.below hV).reads.1.2.1, (h.below hV).look hs⟩
set_option maxRecDepth 100000 in
theorem chg1_none (hc : Capc x s dv b0 b1 b2 W) (h : DiskAt x W) (hf : x.fs s = none) (hs : s.length ≤ maxLen) :
    Calls Tryz.prog 268 #[.pointer (some ⟨b0, 0, none⟩), .pointer (some ⟨b1, 0, none⟩), .pointer (some ⟨b2, 0, none⟩)] W fun e W' => e = .returned (.int .i64 6) ∧ Below W.heap.size W W' := by
  have HS := Lib.hid (chg1_reads hc h hs)
  rw [hf] at HS
  simp only [ptrF] at HS
  clear hc h hf hs
  generalize str s = y at *
  go_enter Tryz.func268, Tryz.ntmps268
  go_wp2_with fail
  have H0 : Below W.heap.size W W.drew := (Below.refl _ _).drew
  refine Drawn.start (fun V => Below W.heap.size W V) (fun _ => false) (by kernel_rfl) ?_
  refine Drawn.take 0 (some 4) (v := ?_) rfl rfl (by kernel_rfl) (by kernel_rfl) (by kernel_rfl) (by kernel_rfl) (by kernel_rfl) rfl (fun _ _ _ h => h) (Or.inl ⟨rfl, ?_⟩) H0 ?_
  rotate_left
  · intro W hW; have hW := HS.out W hW; go_simp; try with_reducible rfl
  simp only [put_list, List.set]
  refine Drawn.take 1 (some 5) (v := ?_) rfl rfl (by kernel_rfl) (by kernel_rfl) (by kernel_rfl) (by kernel_rfl) (by kernel_rfl) rfl (fun _ _ _ h => h) (Or.inl ⟨rfl, ?_⟩) H0 ?_
  rotate_left
  · intro W hW; have hW := HS.out W hW; go_simp; try with_reducible rfl
  simp only [put_list, List.set]
  refine Drawn.take 2 (some 6) (v := ?_) rfl rfl (by kernel_rfl) (by kernel_rfl) (by kernel_rfl) (by kernel_rfl) (by kernel_rfl) rfl (fun _ _ _ h => h) (Or.inl ⟨rfl, ?_⟩) H0 ?_
  rotate_left
  · intro W hW; have hW := HS.out W hW; go_simp; try with_reducible rfl
  simp only [put_list, List.set]
  refine Drawn.take 3 (some 7) (v := ?_) rfl rfl (by kernel_rfl) (by kernel_rfl) (by kernel_rfl) (by kernel_rfl) (by kernel_rfl) rfl (fun _ _ _ h => h) (Or.inl ⟨rfl, ?_⟩) H0 ?_
  rotate_left
  · intro W hW; have hW := HS.out W hW; go_simp; try with_reducible rfl
  simp only [put_list, List.set]
  refine Drawn.take 4 (some 8) (v := ?_) rfl rfl (by kernel_rfl) (by kernel_rfl) (by kernel_rfl) (by kernel_rfl) (by kernel_rfl) rfl (fun _ _ _ h => h) (Or.inl ⟨rfl, ?_⟩) H0 ?_
  rotate_left
  · intro W hW; have hW := HS.out W hW; go_simp; try with_reducible rfl
  simp only [put_list, List.set]
  refine Drawn.take 5 (some 9) (v := ?_) rfl rfl (by kernel_rfl) (by kernel_rfl) (by kernel_rfl) (by kernel_rfl) (by kernel_rfl) rfl (fun _ _ _ h => h) (Or.inl ⟨rfl, ?_⟩) H0 ?_
  rotate_left
  · intro W hW; have hW := HS.out W hW; go_simp; try with_reducible rfl
  simp only [put_list, List.set]
  refine Drawn.take 6 (some 10) (v := ?_) rfl rfl (by kernel_rfl) (by kernel_rfl) (by kernel_rfl) (by kernel_rfl) (by kernel_rfl) rfl (fun _ _ _ h => h) (Or.inl ⟨rfl, ?_⟩) H0 ?_
  rotate_left
  · intro W hW; have hW := HS.out W hW; go_simp; try with_reducible rfl
  simp only [put_list, List.set]
  refine Drawn.done (by kernel_rfl) ?_ _
  clear HS
  go_wp2_with fail
  go_ret
  exact ⟨rfl, H0⟩
set_option maxRecDepth 100000 in
theorem chg1_some {nd : FuncId} {dc : Array Value} (hc : Capc x s (.func (.func nd) #[] dc) b0 b1 b2 W) (h : DiskAt x W) {f : Fl} (hf : x.fs s = some f) (hs : s.length ≤ maxLen)
    (hen : ∀ w, (callFunc nd (#[.pointer (some ⟨x.d, 0, none⟩), .string (str s)] ++ dc)).run Tryz.prog w = .ok (.enter nd (#[.pointer (some ⟨x.d, 0, none⟩), .string (str s)] ++ dc)) w) (Q : World → Prop)
    (hdo : Calls Tryz.prog nd (#[.pointer (some ⟨x.d, 0, none⟩), .string (str s)] ++ dc) W.drew fun e W' => e = .returned (.tuple #[]) ∧ Q W') :
    Calls Tryz.prog 268 #[.pointer (some ⟨b0, 0, none⟩), .pointer (some ⟨b1, 0, none⟩), .pointer (some ⟨b2, 0, none⟩)] W fun e W' => e = .returned (.int .i64 0) ∧ Q W' := by
  have HS := Lib.hid (chg1_reads hc h hs)
  rw [hf] at HS
  simp only [ptrF] at HS
  have HD := Lib.hid hdo
  clear hc h hf hs hdo
  generalize str s = y at *
  go_enter Tryz.func268, Tryz.ntmps268
  go_wp2_with fail
  have H0 : Below W.heap.size W W.drew := (Below.refl _ _).drew
  refine Drawn.start (fun V => Below W.heap.size W V) (fun _ => false) (by kernel_rfl) ?_
  refine Drawn.take 0 (some 4) (v := ?_) rfl rfl (by kernel_rfl) (by kernel_rfl) (by kernel_rfl) (by kernel_rfl) (by kernel_rfl) rfl (fun _ _ _ h => h) (Or.inl ⟨rfl, ?_⟩) H0 ?_
  rotate_left
  · intro W hW; have hW := HS.out W hW; go_simp; try with_reducible rfl
  simp only [put_list, List.set]
  refine Drawn.take 1 (some 5) (v := ?_) rfl rfl (by kernel_rfl) (by kernel_rfl) (by kernel_rfl) (by kernel_rfl) (by kernel_rfl) rfl (fun _ _ _ h => h) (Or.inl ⟨rfl, ?_⟩) H0 ?_
  rotate_left
  · intro W hW; have hW := HS.out W hW; go_simp; try with_reducible rfl
  simp only [put_list, List.set]
  refine Drawn.take 2 (some 6) (v := ?_) rfl rfl (by kernel_rfl) (by kernel_rfl) (by kernel_rfl) (by kernel_rfl) (by kernel_rfl) rfl (fun _ _ _ h => h) (Or.inl ⟨rfl, ?_⟩) H0 ?_
  rotate_left
  · intro W hW; have hW := HS.out W hW; go_simp; try with_reducible rfl
  simp only [put_list, List.set]
  refine Drawn.take 3 (some 7) (v := ?_) rfl rfl (by kernel_rfl) (by kernel_rfl) (by kernel_rfl) (by kernel_rfl) (by kernel_rfl) rfl (fun _ _ _ h => h) (Or.inl ⟨rfl, ?_⟩) H0 ?_
  rotate_left
  · intro W hW; have hW := HS.out W hW; go_simp; try with_reducible rfl
  simp only [put_list, List.set]
  refine Drawn.take 4 (some 8) (v := ?_) rfl rfl (by kernel_rfl) (by kernel_rfl) (by kernel_rfl) (by kernel_rfl) (by kernel_rfl) rfl (fun _ _ _ h => h) (Or.inl ⟨rfl, ?_⟩) H0 ?_
  rotate_left
  · intro W hW; have hW := HS.out W hW; go_simp; try with_reducible rfl
  simp only [put_list, List.set]
  refine Drawn.take 5 (some 9) (v := ?_) rfl rfl (by kernel_rfl) (by kernel_rfl) (by kernel_rfl) (by kernel_rfl) (by kernel_rfl) rfl (fun _ _ _ h => h) (Or.inl ⟨rfl, ?_⟩) H0 ?_
  rotate_left
  · intro W hW; have hW := HS.out W hW; go_simp; try with_reducible rfl
  simp only [put_list, List.set]
  refine Drawn.take 6 (some 10) (v := ?_) rfl rfl (by kernel_rfl) (by kernel_rfl) (by kernel_rfl) (by kernel_rfl) (by kernel_rfl) rfl (fun _ _ _ h => h) (Or.inl ⟨rfl, ?_⟩) H0 ?_
  rotate_left
  · intro W hW; have hW := HS.out W hW; go_simp; try with_reducible rfl
  simp only [put_list, List.set]
  refine Drawn.done (by kernel_rfl) ?_ _
  obtain ⟨k0, k1, k2, _⟩ := HS.out W.drew H0
  clear HS
  go_wp2_with fail
  refine HD.out.mono ?_
  rintro e W2 ⟨rfl, hq⟩
  have HQ := Lib.hid hq
  clear hq HD
  go_wp2_with fail
  go_ret
  exact ⟨rfl, HQ.out⟩
theorem change_none (h : DiskAt x W) (hd : x.dead = false) (ha : x.after ≠ 0) (hx : Fine x) (hf : x.fs s = none) (hs : s.length ≤ maxLen) (nd : FuncId) (dc : Array Value) :
    Calls Tryz.prog 251 #[.pointer (some ⟨x.d, 0, none⟩), .string (str s), .func (.func nd) #[] dc] W fun e W' => e = .returned (.int .i64 6) ∧ DiskAt x.tick W' ∧ Chg x.ft x.ft W W' := by
  refine (change_any h s nd dc (fun r W' => r = 6 ∧ DiskAt x.tick W' ∧ Chg x.ft x.ft W W') fun W1 b0 b1 b2 h1 hb1 hc => ?_).mono ?_
  · refine step_whole h1 hd ha hx.after _ _ _ (enter_change _ _ _) _ fun W2 h2 hc2 => ?_
    refine (chg1_none (hc.chg (y := x.tick) hc2 (fun _ h => h) rfl (fun _ h => h)) h2 hf hs).mono ?_
    rintro e W3 ⟨rfl, hb⟩
    exact ⟨_, rfl, rfl, DiskAt.below (x := x.tick) h2 hb, ((Chg.of_below hb1).trans hc2).trans (Chg.of_below hb)⟩
  · rintro e W2 ⟨r, rfl, rfl, hq⟩
    exact ⟨rfl, hq⟩
theorem change_some (h : DiskAt x W) (hd : x.dead = false) (ha : x.after ≠ 0) (hx : Fine x) {f : Fl} (hf : x.fs s = some f) (hs : s.length ≤ maxLen) (nd : FuncId) (dc : Array Value)
    (hen : ∀ w, (callFunc nd (#[.pointer (some ⟨x.d, 0, none⟩), .string (str s)] ++ dc)).run Tryz.prog w = .ok (.enter nd (#[.pointer (some ⟨x.d, 0, none⟩), .string (str s)] ++ dc)) w) (Q : World → Prop)
    (hdo : ∀ W1, DiskAt x.tick W1 → Chg x.ft x.ft W W1 → Calls Tryz.prog nd (#[.pointer (some ⟨x.d, 0, none⟩), .string (str s)] ++ dc) W1 fun e W' => e = .returned (.tuple #[]) ∧ Q W') :
    Calls Tryz.prog 251 #[.pointer (some ⟨x.d, 0, none⟩), .string (str s), .func (.func nd) #[] dc] W fun e W' => e = .returned (.int .i64 0) ∧ Q W' := by
  refine (change_any h s nd dc (fun r W' => r = 0 ∧ Q W') fun W1 b0 b1 b2 h1 hb1 hc => ?_).mono ?_
  · refine step_whole h1 hd ha hx.after _ _ _ (enter_change _ _ _) _ fun W2 h2 hc2 => ?_
    have hcd : Chg x.ft x.ft W W2.drew := ((Chg.of_below hb1).trans hc2).trans (Chg.of_below (Below.refl _ _).drew)
    refine (chg1_some (hc.chg (y := x.tick) hc2 (fun _ h => h) rfl (fun _ h => h)) h2 hf hs hen Q (hdo _ (DiskAt.drew (x := x.tick) h2) hcd)).mono ?_
    rintro e W3 ⟨rfl, hq⟩
    exact ⟨_, rfl, rfl, hq⟩
  · rintro e W2 ⟨r, rfl, rfl, hq⟩
    exact ⟨rfl, hq⟩
theorem enter_secure (a b : Value) (w : World) : (callFunc 252 (#[a, b] ++ #[])).run Tryz.prog w = .ok (.enter 252 (#[a, b] ++ #[])) w := by kernel_rfl
def Dk.syn (x : Dk) (s : Nm) (f : Fl) : Dk := { x with fs := updF x.fs s (some ⟨f.b, f.v, f.bs, f.bs.length⟩) }
end
end Go.Proofs.YtekoaheiapddiaaGreat.Dz
end
