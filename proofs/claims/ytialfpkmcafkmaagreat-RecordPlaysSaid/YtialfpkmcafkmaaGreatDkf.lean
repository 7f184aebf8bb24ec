/- Append: ahead of the step. -/
import Derived.Test.YtialfpkmcafkmaaGreatDke
import Derived.Test.YtialfpkmcafkmaaGreatAmong
namespace Go.Proofs.YtialfpkmcafkmaaGreat
open Go.RowKit Go.Maps Go.WideElems Go.ChangeMaps Go.MapKept Go.WideMaps

/-- What the two closures of Append have captured. -/
structure Caps (x : Dk) (s xs : Nm) (b0 b1 b2 b3 : Nat) (W : World) : Prop where
  c0 : W.heap[b0]? = some (.cells #[.pointer (some ⟨x.d, 0, none⟩)] 25 (0, 0))
  c1 : W.heap[b1]? = some (.cells #[.string (str s)] 9 (0, 0))
  c2 : W.heap[b2]? = some (.cells #[.string (str xs)] 9 (0, 0))
  c3 : W.heap[b3]? = some (.cells #[.bool (decide ((xs.length : Int) ≤ x.room - x.used))] 4 (0, 0))
  far : ¬ x.ft b0 ∧ ¬ x.ft b1 ∧ ¬ x.ft b2 ∧ ¬ x.ft b3
theorem Caps.chg {x y : Dk} {s xs : Nm} {b0 b1 b2 b3 : Nat} {W W' : World} {F F' : Nat → Prop} (h : Caps x s xs b0 b1 b2 b3 W) (hc : Chg F F' W W') (h1 : ∀ k, F k → x.ft k) (hd : y.d = x.d) (hr : y.room = x.room) (hu : y.used = x.used) (hf : ∀ k, y.ft k → x.ft k) : Caps y s xs b0 b1 b2 b3 W' := by
  obtain ⟨c0, c1, c2, c3, f0, f1, f2, f3⟩ := h
  refine ⟨?_, (hc.block _ (lt_of c1) (fun h => f1 (h1 _ h))).trans c1, (hc.block _ (lt_of c2) (fun h => f2 (h1 _ h))).trans c2, ?_, fun h => f0 (hf _ h), fun h => f1 (hf _ h), fun h => f2 (hf _ h), fun h => f3 (hf _ h)⟩
  · rw [hd]; exact (hc.block _ (lt_of c0) (fun h => f0 (h1 _ h))).trans c0
  · rw [hr, hu]; exact (hc.block _ (lt_of c3) (fun h => f3 (h1 _ h))).trans c3
section
variable {x : Dk} {W : World}
set_option maxRecDepth 100000 in
theorem append_any (h : DiskAt x W) (s xs : Nm) (hu : -1000000000000 ≤ x.used ∧ x.used ≤ 1000000000000) (hr : 0 ≤ x.room ∧ x.room ≤ 1000000000000) (Q : Int → World → Prop)
    (hstep : ∀ W1 b0 b1 b2 b3, DiskAt x W1 → Below W.heap.size W W1 → Caps x s xs b0 b1 b2 b3 W1 →
      Calls Tryz.prog 50 #[.pointer (some ⟨x.d, 0, none⟩), .func (.func 47) #[] #[.pointer (some ⟨b3, 0, none⟩), .pointer (some ⟨b0, 0, none⟩), .pointer (some ⟨b1, 0, none⟩), .pointer (some ⟨b2, 0, none⟩)],
        .func (.func 49) #[] #[.pointer (some ⟨b2, 0, none⟩), .pointer (some ⟨b0, 0, none⟩), .pointer (some ⟨b3, 0, none⟩), .pointer (some ⟨b1, 0, none⟩)]] W1 fun e W' => ∃ r, e = .returned (.int .i64 r) ∧ Q r W') :
    Calls Tryz.prog 22 #[.pointer (some ⟨x.d, 0, none⟩), .string (str s), .string (str xs)] W fun e W' => ∃ r, e = .returned (.int .i64 r) ∧ Q r W' := by
  have HST := Lib.hid hstep
  have H := Lib.hid h
  have hxs := str_size xs
  have HU := Lib.hid (And.intro hu hr)
  clear h hstep hu hr
  generalize hy : str s = y at *
  generalize hz : str xs = z at *
  have HY := Lib.hid (And.intro hy hz)
  clear hy hz
  go_enter Tryz.func22, Tryz.ntmps22
  go_wp2_with fail
  obtain ⟨W3, hW3⟩ : ∃ V, V = (((W.alloc (.cells #[.pointer (some ⟨x.d, 0, none⟩)] 25)).alloc (.cells #[.string y] 9)).alloc (.cells #[.string z] 9)) := ⟨_, rfl⟩
  rw [← hW3]
  have hx3 : DiskAt x W3 := by rw [hW3]; exact ((H.out.alloc _).alloc _).alloc _
  have hb3 : Below W.heap.size W W3 := by rw [hW3]; exact (((Below.refl _ _).alloc (Nat.le_refl _) _).alloc (by simp) _).alloc (by simp; omega) _
  have s3 : W3.heap.size = W.heap.size + 1 + 1 + 1 := by rw [hW3, alloc_size, alloc_size, alloc_size]
  have k2 : W3.heap[W.heap.size + 1 + 1]? = some (.cells #[.string z] 9 (0, 0)) := by
    have h := heap_alloc_new ((W.alloc (.cells #[.pointer (some ⟨x.d, 0, none⟩)] 25)).alloc (.cells #[.string y] 9)) (.cells #[.string z] 9)
    rw [alloc_size, alloc_size] at h; rw [hW3]; exact h
  have k1 : W3.heap[W.heap.size + 1]? = some (.cells #[.string y] 9 (0, 0)) := by
    have h := heap_alloc_new (W.alloc (.cells #[.pointer (some ⟨x.d, 0, none⟩)] 25)) (.cells #[.string y] 9)
    rw [alloc_size] at h; rw [hW3, Below.heap_alloc _ _ _ (by rw [alloc_size, alloc_size]; omega)]; exact h
  have k0 : W3.heap[W.heap.size]? = some (.cells #[.pointer (some ⟨x.d, 0, none⟩)] 25 (0, 0)) := by
    rw [hW3, Below.heap_alloc _ _ _ (by rw [alloc_size, alloc_size]; omega), Below.heap_alloc _ _ _ (by rw [alloc_size]; omega)]; exact heap_alloc_new _ _
  have hfar : ∀ k, W.heap.size ≤ k → ¬ x.ft k := fun k hk hf => by have := H.out.lt hf; omega
  clear hW3
  have HF := Lib.hid hfar
  generalize W.heap.size = b0 at *
  have HK := Lib.hid (And.intro k0 (And.intro k1 (And.intro k2 (And.intro hb3 hx3))))
  have HS := Lib.hid (fun (V : World) (hV : Below W3.heap.size W3 V) => (show V.cell? ⟨b0, 0, none⟩ = some (.pointer (some ⟨x.d, 0, none⟩)) ∧ V.cell? ⟨b0 + 1 + 1, 0, none⟩ = some (.string z) ∧ V.cell? ⟨x.d, 0, none⟩ = some (.int .i64 x.room) ∧ V.cell? ⟨x.d, 2, none⟩ = some (.int .i64 x.used) from
    ⟨cell_of ((hV.block _ (lt_of k0)).trans k0) 0, cell_of ((hV.block _ (lt_of k2)).trans k2) 0, (hx3.below hV).reads.1.1, (hx3.below hV).reads.1.2.2.1⟩))
  have hwr : IntKind.i64.wrap (x.room - x.used) = x.room - x.used := IntWalk.i64_in _ ⟨by have := HU.out; omega, by have := HU.out; omega⟩
  clear k0 k1 k2 hb3 hx3 hfar
  have H0 : Below W3.heap.size W3 W3.drew := (Below.refl _ _).drew
  refine Drawn.start (fun V => Below W3.heap.size W3 V) (fun _ => false) (by kernel_rfl) ?_
  refine Drawn.take 0 (some 10) (v := ?_) rfl rfl (by kernel_rfl) (by kernel_rfl) (by kernel_rfl) (by kernel_rfl) (by kernel_rfl) rfl (fun _ _ _ h => h) (Or.inl ⟨rfl, ?_⟩) H0 ?_
  rotate_left
  · intro W hW; have hW := HS.out W hW; go_simp; try with_reducible rfl
  simp only [put_list, List.set]
  refine Drawn.take 1 (some 11) (v := ?_) rfl rfl (by kernel_rfl) (by kernel_rfl) (by kernel_rfl) (by kernel_rfl) (by kernel_rfl) rfl (fun _ _ _ h => h) (Or.inl ⟨rfl, ?_⟩) H0 ?_
  rotate_left
  · intro W hW; have hW := HS.out W hW; go_simp; try with_reducible rfl
  simp only [put_list, List.set]
  refine Drawn.take 2 (some 12) (v := ?_) rfl rfl (by kernel_rfl) (by kernel_rfl) (by kernel_rfl) (by kernel_rfl) (by kernel_rfl) rfl (fun _ _ _ h => h) (Or.inl ⟨rfl, ?_⟩) H0 ?_
  rotate_left
  · intro W hW; have hW := HS.out W hW; go_simp; try with_reducible rfl
  simp only [put_list, List.set]
  refine Drawn.take 3 (some 13) (v := ?_) rfl rfl (by kernel_rfl) (by kernel_rfl) (by kernel_rfl) (by kernel_rfl) (by kernel_rfl) rfl (fun _ _ _ h => h) (Or.inl ⟨rfl, ?_⟩) H0 ?_
  rotate_left
  · intro W hW; have hW := HS.out W hW; go_simp; try with_reducible rfl
  simp only [put_list, List.set]
  refine Drawn.take 4 (some 14) (v := ?_) rfl rfl (by kernel_rfl) (by kernel_rfl) (by kernel_rfl) (by kernel_rfl) (by kernel_rfl) rfl (fun _ _ _ h => h) (Or.inl ⟨rfl, ?_⟩) H0 ?_
  rotate_left
  · intro W hW; have hW := HS.out W hW; go_simp; try with_reducible rfl
  simp only [put_list, List.set]
  refine Drawn.take 5 (some 15) (v := ?_) rfl rfl (by kernel_rfl) (by kernel_rfl) (by kernel_rfl) (by kernel_rfl) (by kernel_rfl) rfl (fun _ _ _ h => h) (Or.inl ⟨rfl, ?_⟩) H0 ?_
  rotate_left
  · intro W hW; have hW := HS.out W hW; go_simp; try with_reducible rfl
  simp only [put_list, List.set]
  refine Drawn.take 6 (some 16) (v := ?_) rfl rfl (by kernel_rfl) (by kernel_rfl) (by kernel_rfl) (by kernel_rfl) (by kernel_rfl) rfl (fun _ _ _ h => h) (Or.inl ⟨rfl, ?_⟩) H0 ?_
  rotate_left
  · intro W hW; have hW := HS.out W hW; go_simp; try with_reducible rfl
  simp only [put_list, List.set]
  refine Drawn.take 7 (some 17) (v := ?_) rfl rfl (by kernel_rfl) (by kernel_rfl) (by kernel_rfl) (by kernel_rfl) (by kernel_rfl) rfl (fun _ _ _ h => h) (Or.inl ⟨rfl, ?_⟩) H0 ?_
  rotate_left
  · intro W hW; have hW := HS.out W hW; go_simp; try with_reducible rfl
  simp only [put_list, List.set]
  refine Drawn.take 8 (some 18) (v := ?_) rfl rfl (by kernel_rfl) (by kernel_rfl) (by kernel_rfl) (by kernel_rfl) (by kernel_rfl) rfl (fun _ _ _ h => h) (Or.inl ⟨rfl, ?_⟩) H0 ?_
  rotate_left
  · intro W hW; have hW := HS.out W hW; go_simp; try with_reducible rfl
  simp only [put_list, List.set]
  refine Drawn.take 9 (some 19) (v := ?_) rfl rfl (by kernel_rfl) (by kernel_rfl) (by kernel_rfl) (by kernel_rfl) (by kernel_rfl) rfl (fun _ _ _ h => h) (Or.inl ⟨rfl, ?_⟩) H0 ?_
  rotate_left
  · intro W hW; have hW := HS.out W hW; go_simp; try with_reducible rfl
  simp only [put_list, List.set]
  refine Drawn.take 10 (some 20) (v := ?_) rfl rfl (by kernel_rfl) (by kernel_rfl) (by kernel_rfl) (by kernel_rfl) (by kernel_rfl) rfl (fun _ _ _ h => h) (Or.inl ⟨rfl, ?_⟩) H0 ?_
  rotate_left
  · intro W hW; have hW := HS.out W hW; go_simp; try with_reducible rfl
  simp only [put_list, List.set]
  refine Drawn.take 11 (some 21) (v := ?_) rfl rfl (by kernel_rfl) (by kernel_rfl) (by kernel_rfl) (by kernel_rfl) (by kernel_rfl) rfl (fun _ _ _ h => h) (Or.inl ⟨rfl, ?_⟩) H0 ?_
  rotate_left
  · intro W hW; have hW := HS.out W hW; go_simp; try with_reducible rfl
  simp only [put_list, List.set]
  refine Drawn.only 12 (by kernel_rfl) rfl rfl (fun K hK => ?_)
  go_simp
  refine hK _ _ (fun _ _ => H0.alloc (Nat.le_refl _) _) ?_
  clear hK K
  try simp only [put_list, List.set]
  refine Drawn.only 13 (by kernel_rfl) rfl rfl (fun K hK => ?_)
  go_simp
  have H1 : Below W3.heap.size W3 (W3.alloc (.cells #[.bool (decide ((xs.length : Int) ≤ x.room - x.used))] 4)).drew := H0.alloc (Nat.le_refl _) _
  refine hK _ _ (fun _ _ => H1) ?_
  clear hK K
  refine Drawn.done (by kernel_rfl) ?_ _
  obtain ⟨W4, hW4⟩ : ∃ V, V = (W3.alloc (.cells #[.bool (decide ((xs.length : Int) ≤ x.room - x.used))] 4)).drew := ⟨_, rfl⟩
  have k3 : W4.heap[b0 + 1 + 1 + 1]? = some (.cells #[.bool (decide ((xs.length : Int) ≤ x.room - x.used))] 4 (0, 0)) := by
    rw [hW4, ← s3]; exact heap_alloc_new W3 _
  rw [← hW4] at H1 ⊢
  have d3 : W4.cell? ⟨b0, 0, none⟩ = some (.pointer (some ⟨x.d, 0, none⟩)) := cell_of ((H1.block _ (lt_of HK.out.1)).trans HK.out.1) 0
  have HC : Caps x s xs b0 (b0 + 1) (b0 + 1 + 1) (b0 + 1 + 1 + 1) W4 := by
    obtain ⟨k0, k1, k2, _⟩ := HK.out
    refine ⟨(H1.block _ (lt_of k0)).trans k0, ?_, ?_, k3, HF.out _ (by omega), HF.out _ (by omega), HF.out _ (by omega), HF.out _ (by omega)⟩
    · rw [HY.out.1]; exact (H1.block _ (lt_of k1)).trans k1
    · rw [HY.out.2]; exact (H1.block _ (lt_of k2)).trans k2
  have HG := Lib.hid (HST.out W4 _ _ _ _ (HK.out.2.2.2.2.below H1) (HK.out.2.2.2.1.trans (H1.mono (by omega))) HC)
  clear H1 hW4 k3 HC HST HS H0
  go_wp2_with fail
  refine HG.out.mono ?_
  rintro e W5 ⟨r, rfl, hq⟩
  have HQ := Lib.hid hq
  clear hq
  go_wp2_with fail
  go_ret
  exact ⟨_, rfl, HQ.out⟩
end
end Go.Proofs.YtialfpkmcafkmaaGreat
