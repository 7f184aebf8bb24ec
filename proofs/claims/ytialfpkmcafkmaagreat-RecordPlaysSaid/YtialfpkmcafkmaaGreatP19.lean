/- A deed on both disks. -/
import Derived.Test.YtialfpkmcafkmaaGreatP18
namespace Go.Proofs.YtialfpkmcafkmaaGreat
open Go.RowKit
section
variable {X : Nat → Prop} {V0 V W : World} {q p : Pd} {d N : Nat} {F : Nat → Prop} {b B : Nat} {v : Value} {k a : Nat} {s : Nm} {n m : Int}
def TwB (X : Nat → Prop) (W : World) (k a : Nat) (s : Nm) (n m : Int) (q p : Pd) (d N : Nat) (F : Nat → Prop) (b B : Nat) (v : Value) (V : World) : Prop :=
  Tw (fun j => X j ∨ j = W.heap.size) (W.alloc (.cells (deedC k a s n m) 34)) q p d N F b B v V
theorem TwB.deed (h : TwB X W k a s n m q p d N F b B v V) : DeedB W.heap.size k a s n m V := (h.ext _ (Or.inr rfl)).2.2.2.trans (heap_alloc_new _ _)
theorem TwB.done (h0 : Tw X V0 q p d N F b B v W) {q' p' : Pd} {d' N' : Nat} {F' : Nat → Prop} {b' : Nat} {v' : Value} (h : TwB X W k a s n m q' p' d' N' F' b' B v' V) : Tw X V0 q' p' d' N' F' b' B v' V :=
  h.less (fun _ hk => Or.inl hk) (fun j hj => (Below.heap_alloc _ _ _ (h0.ext j hj).1).trans (h0.ext j hj).2.2.2) h0.os h0.tape h0.output
theorem TwB.call (h : TwB X W k a s n m q p d N F b B v V) {V' : World} (hb : Below V.heap.size V V') : TwB X W k a s n m q p d N F b B v V' := Tw.call h hb
theorem TwB.left (h : TwB X W k a s n m q p d N F b B v V) {V' : World} {q' : Pd} {N' : Nat} (hl : Left q' d N' F V V') : ∃ F', TwB X W k a s n m q' p d N' F' b B v V' := Tw.left h hl
theorem TwB.right (h : TwB X W k a s n m q p d N F b B v V) {V' : World} {p' : Pd} {v' : Value} (h1 : Rk p' b v' B V') (h2 : Chg (Rk.ft b v) (Rk.ft b v') V V') : TwB X W k a s n m q p' d N F b B v' V' := Tw.right h h1 h2
set_option maxRecDepth 100000 in
set_option maxHeartbeats 2000000 in
theorem does_mend (h : Tw X V0 p p d N F b B v W) (hN : N < 900000) (hlen : p.L.length < 800000) (hk : k % 7 = 2) (ha : a < 256) : Calls Tryz.prog 7 #[.pointer (some ⟨d, 0, none⟩), .pointer (some ⟨b, 0, none⟩), .agg (deedC k a s n m)] W fun e W' => DoesR X V0 p N B e W' := by
  have hnl : (nm a).length ≤ maxLen := by have := nm_len a; unfold maxLen; omega
  have hnl2 : (nm a).length ≤ 1000000 := by have := nm_len a; omega
  obtain ⟨l, r, hF⟩ := Fs.exist (bsE (getE p.L (nm a)))
  have HP := Lib.hid (fun (V : World) (F' : Nat → Prop) (t : On p d N F' V) => t.mend (by omega) hnl2 hF)
  have HR := Lib.hid (fun (V : World) (t : Rk p b v B V) (hB : B ≤ V.heap.size) => pmend_c t h.on.ok (nm a) hnl2 hB (by omega) hF)
  have HG := Lib.hid (show Gr 1 p (p.mendW (nm a) (frs l)).2 ∧ (Sh p → Sh (p.mendW (nm a) (frs l)).2) from ⟨gr_mend h.on.ok _ _, fun hh => sh_mend hh (nm_len a) _⟩)
  have HM := Lib.hid (fun V => name_c a ha V)
  have T0 : TwB X W k a s n m p p d N F b B v (W.alloc (.cells (deedC k a s n m) 34)) := h.box _
  replace T0 := T0.call (Below.refl _ _).drew
  have H := Lib.hid h
  have H0 := T0.deed
  have HS := Lib.hid (fun (V : World) (hV : DeedB W.heap.size k a s n m V) => hV.reads)
  have hk7 : (k : Int) % 7 = 2 := by omega
  obtain ⟨c0, c1, c2, c3, c4⟩ := H0.reads
  unfold deedC at *
  clear h hN hlen hk ha hnl hnl2 hF
  go_enter Tryz.func7, Tryz.ntmps7
  go_wp2_with fail
  clear c0 c1 c2 c3 c4
  refine Drawn.start (fun V => DeedB W.heap.size k a s n m V) (fun _ => false) (by kernel_rfl) ?_
  refine Drawn.take 0 (some 14) (v := ?_) rfl rfl (by kernel_rfl) (by kernel_rfl) (by kernel_rfl) (by kernel_rfl) (by kernel_rfl) rfl (fun _ _ _ h => h) (Or.inl ⟨rfl, ?_⟩) H0 ?_
  rotate_left
  · intro W hW; have hW := HS.out W hW; go_simp; try with_reducible rfl
  simp only [put_list, List.set]
  refine Drawn.take 1 (some 15) (v := ?_) rfl rfl (by kernel_rfl) (by kernel_rfl) (by kernel_rfl) (by kernel_rfl) (by kernel_rfl) rfl (fun _ _ _ h => h) (Or.inl ⟨rfl, ?_⟩) H0 ?_
  rotate_left
  · intro W hW; have hW := HS.out W hW; go_simp; try with_reducible rfl
  simp only [put_list, List.set]
  refine Drawn.take 2 (some 16) (v := ?_) rfl rfl (by kernel_rfl) (by kernel_rfl) (by kernel_rfl) (by kernel_rfl) (by kernel_rfl) rfl (fun _ _ _ h => h) (Or.inl ⟨rfl, ?_⟩) H0 ?_
  rotate_left
  · intro W hW; have hW := HS.out W hW; go_simp; try with_reducible rfl
  simp only [put_list, List.set]
  refine Drawn.take 3 (some 17) (v := ?_) rfl rfl (by kernel_rfl) (by kernel_rfl) (by kernel_rfl) (by kernel_rfl) (by kernel_rfl) rfl (fun _ _ _ h => h) (Or.inl ⟨rfl, ?_⟩) H0 ?_
  rotate_left
  · intro W hW; have hW := HS.out W hW; go_simp; try with_reducible rfl
  simp only [put_list, List.set]
  refine Drawn.take 4 (some 18) (v := ?_) rfl rfl (by kernel_rfl) (by kernel_rfl) (by kernel_rfl) (by kernel_rfl) (by kernel_rfl) rfl (fun _ _ _ h => h) (Or.inl ⟨rfl, ?_⟩) H0 ?_
  rotate_left
  · intro W hW; have hW := HS.out W hW; go_simp; try with_reducible rfl
  simp only [put_list, List.set]
  refine Drawn.take 7 (some 21) (v := ?_) rfl rfl (by kernel_rfl) (by kernel_rfl) (by kernel_rfl) (by kernel_rfl) (by kernel_rfl) rfl (fun _ _ _ h => h) (Or.inl ⟨rfl, ?_⟩) H0 ?_
  rotate_left
  · intro W hW; have hW := HS.out W hW; go_simp; try with_reducible rfl
  simp only [put_list, List.set]
  refine Drawn.take 8 (some 22) (v := ?_) rfl rfl (by kernel_rfl) (by kernel_rfl) (by kernel_rfl) (by kernel_rfl) (by kernel_rfl) rfl (fun _ _ _ h => h) (Or.inl ⟨rfl, ?_⟩) H0 ?_
  rotate_left
  · intro W hW; have hW := HS.out W hW; go_simp; try with_reducible rfl
  simp only [put_list, List.set]
  refine Drawn.take 9 (some 23) (v := ?_) rfl rfl (by kernel_rfl) (by kernel_rfl) (by kernel_rfl) (by kernel_rfl) (by kernel_rfl) rfl (fun _ _ _ h => h) (Or.inl ⟨rfl, ?_⟩) H0 ?_
  rotate_left
  · intro W hW; have hW := HS.out W hW; go_simp; try with_reducible rfl
  simp only [put_list, List.set]
  clear H0
  generalize World.drew _ = Va at T0 ⊢
  refine Drawn.only 5 (by kernel_rfl) rfl rfl (fun K hK => ?_)
  go_simp
  refine (HM.out _).mono ?_
  rintro e V1 ⟨rfl, hb⟩
  replace T0 := T0.call hb
  refine hK _ _ (fun _ _ => T0.deed) ?_
  clear hb
  clear hK K
  try simp only [put_list, List.set]
  refine Drawn.only 6 (by kernel_rfl) rfl rfl (fun K hK => ?_)
  go_simp
  refine (HP.out _ _ T0.on).mono ?_
  rintro e V2 ⟨rfl, hl⟩
  obtain ⟨F2, T2⟩ := T0.left hl
  refine hK _ _ (fun _ _ => T2.deed) ?_
  clear hl T0
  clear hK K
  try simp only [put_list, List.set]
  refine Drawn.only 10 (by kernel_rfl) rfl rfl (fun K hK => ?_)
  go_simp
  refine (HM.out _).mono ?_
  rintro e V3 ⟨rfl, hb⟩
  replace T2 := T2.call hb
  refine hK _ _ (fun _ _ => T2.deed) ?_
  clear hb
  clear hK K
  try simp only [put_list, List.set]
  refine Drawn.only 11 (by kernel_rfl) rfl rfl (fun K hK => ?_)
  go_simp
  refine (HR.out _ T2.rk (Tw.size T2)).mono ?_
  rintro e V4 ⟨rfl, v4, k1, k2⟩
  have T4 := T2.right k1 k2
  refine hK _ _ (fun _ _ => T4.deed) ?_
  clear k1 k2 T2
  clear hK K
  try simp only [put_list, List.set]
  have H4 := T4.deed
  have HT := Lib.hid (TwB.done H.out T4)
  generalize (p.mendW (nm a) (frs l)).1 = c at HP HR ⊢
  refine Drawn.take 12 (some 26) (v := ?_) rfl rfl (by kernel_rfl) (by kernel_rfl) (by kernel_rfl) (by kernel_rfl) (by kernel_rfl) rfl (fun _ _ _ h => h) (Or.inl ⟨rfl, ?_⟩) H4 ?_
  rotate_left
  · intro W hW; have hW := HS.out W hW; go_simp; try with_reducible rfl
  simp only [put_list, List.set]
  refine Drawn.take 13 (some 6) (v := ?_) rfl rfl (by kernel_rfl) (by kernel_rfl) (by kernel_rfl) (by kernel_rfl) (by kernel_rfl) rfl (fun _ _ _ h => h) (Or.inl ⟨rfl, ?_⟩) H4 ?_
  rotate_left
  · intro W hW; have hW := HS.out W hW; go_simp; try with_reducible rfl
  simp only [put_list, List.set]
  refine Drawn.take 14 (some 7) (v := ?_) rfl rfl (by kernel_rfl) (by kernel_rfl) (by kernel_rfl) (by kernel_rfl) (by kernel_rfl) rfl (fun _ _ _ h => h) (Or.inl ⟨rfl, ?_⟩) H4 ?_
  rotate_left
  · intro W hW; have hW := HS.out W hW; go_simp; try with_reducible rfl
  simp only [put_list, List.set]
  refine Drawn.take 15 (some 8) (v := ?_) rfl rfl (by kernel_rfl) (by kernel_rfl) (by kernel_rfl) (by kernel_rfl) (by kernel_rfl) rfl (fun _ _ _ h => h) (Or.inl ⟨rfl, ?_⟩) H4 ?_
  rotate_left
  · intro W hW; have hW := HS.out W hW; go_simp; try with_reducible rfl
  simp only [put_list, List.set]
  refine Drawn.done (by kernel_rfl) ?_ _
  clear H4 T4 HS HP HR HM
  go_wp2_with fail
  go_ret3
  exact ⟨_, _, _, F2, _, _, HG.out.1, HG.out.2, by omega, rfl, HT.out⟩
set_option maxRecDepth 100000 in
set_option maxHeartbeats 2000000 in
theorem does_replace (h : Tw X V0 p p d N F b B v W) (hN : N < 900000) (hlen : p.L.length < 800000) (hk : k % 7 = 3) (ha : a < 256) : Calls Tryz.prog 7 #[.pointer (some ⟨d, 0, none⟩), .pointer (some ⟨b, 0, none⟩), .agg (deedC k a s n m)] W fun e W' => DoesR X V0 p N B e W' := by
  have hnl : (nm a).length ≤ maxLen := by have := nm_len a; unfold maxLen; omega
  have hnl2 : (nm a).length ≤ 1000000 := by have := nm_len a; omega
  obtain ⟨l, r, hF⟩ := Fs.exist (bsE (getE p.L (nm a)))
  have HP := Lib.hid (fun (V : World) (F' : Nat → Prop) (t : On p d N F' V) => t.replace (xs := s) (by omega) hnl2)
  have HR := Lib.hid (fun (V : World) (t : Rk p b v B V) (hB : B ≤ V.heap.size) => preplace_c t h.on.ok (nm a) s hnl2 hB (by omega))
  have HG := Lib.hid (show Gr 1 p (p.replace (nm a) s).2 ∧ (Sh p → Sh (p.replace (nm a) s).2) from ⟨gr_replace h.on.ok _ _, fun hh => sh_replace hh (nm_len a) _⟩)
  have HM := Lib.hid (fun V => name_c a ha V)
  have T0 : TwB X W k a s n m p p d N F b B v (W.alloc (.cells (deedC k a s n m) 34)) := h.box _
  replace T0 := T0.call (Below.refl _ _).drew
  have H := Lib.hid h
  have H0 := T0.deed
  have HS := Lib.hid (fun (V : World) (hV : DeedB W.heap.size k a s n m V) => hV.reads)
  have hk7 : (k : Int) % 7 = 3 := by omega
  obtain ⟨c0, c1, c2, c3, c4⟩ := H0.reads
  unfold deedC at *
  clear h hN hlen hk ha hnl hnl2 hF
  go_enter Tryz.func7, Tryz.ntmps7
  go_wp2_with fail
  clear c0 c1 c2 c3 c4
  refine Drawn.start (fun V => DeedB W.heap.size k a s n m V) (fun _ => false) (by kernel_rfl) ?_
  refine Drawn.take 0 (some 29) (v := ?_) rfl rfl (by kernel_rfl) (by kernel_rfl) (by kernel_rfl) (by kernel_rfl) (by kernel_rfl) rfl (fun _ _ _ h => h) (Or.inl ⟨rfl, ?_⟩) H0 ?_
  rotate_left
  · intro W hW; have hW := HS.out W hW; go_simp; try with_reducible rfl
  simp only [put_list, List.set]
  refine Drawn.take 1 (some 30) (v := ?_) rfl rfl (by kernel_rfl) (by kernel_rfl) (by kernel_rfl) (by kernel_rfl) (by kernel_rfl) rfl (fun _ _ _ h => h) (Or.inl ⟨rfl, ?_⟩) H0 ?_
  rotate_left
  · intro W hW; have hW := HS.out W hW; go_simp; try with_reducible rfl
  simp only [put_list, List.set]
  refine Drawn.take 2 (some 31) (v := ?_) rfl rfl (by kernel_rfl) (by kernel_rfl) (by kernel_rfl) (by kernel_rfl) (by kernel_rfl) rfl (fun _ _ _ h => h) (Or.inl ⟨rfl, ?_⟩) H0 ?_
  rotate_left
  · intro W hW; have hW := HS.out W hW; go_simp; try with_reducible rfl
  simp only [put_list, List.set]
  refine Drawn.take 3 (some 32) (v := ?_) rfl rfl (by kernel_rfl) (by kernel_rfl) (by kernel_rfl) (by kernel_rfl) (by kernel_rfl) rfl (fun _ _ _ h => h) (Or.inl ⟨rfl, ?_⟩) H0 ?_
  rotate_left
  · intro W hW; have hW := HS.out W hW; go_simp; try with_reducible rfl
  simp only [put_list, List.set]
  refine Drawn.take 4 (some 33) (v := ?_) rfl rfl (by kernel_rfl) (by kernel_rfl) (by kernel_rfl) (by kernel_rfl) (by kernel_rfl) rfl (fun _ _ _ h => h) (Or.inl ⟨rfl, ?_⟩) H0 ?_
  rotate_left
  · intro W hW; have hW := HS.out W hW; go_simp; try with_reducible rfl
  simp only [put_list, List.set]
  refine Drawn.take 6 (some 35) (v := ?_) rfl rfl (by kernel_rfl) (by kernel_rfl) (by kernel_rfl) (by kernel_rfl) (by kernel_rfl) rfl (fun _ _ _ h => h) (Or.inl ⟨rfl, ?_⟩) H0 ?_
  rotate_left
  · intro W hW; have hW := HS.out W hW; go_simp; try with_reducible rfl
  simp only [put_list, List.set]
  refine Drawn.take 7 (some 36) (v := ?_) rfl rfl (by kernel_rfl) (by kernel_rfl) (by kernel_rfl) (by kernel_rfl) (by kernel_rfl) rfl (fun _ _ _ h => h) (Or.inl ⟨rfl, ?_⟩) H0 ?_
  rotate_left
  · intro W hW; have hW := HS.out W hW; go_simp; try with_reducible rfl
  simp only [put_list, List.set]
  refine Drawn.take 9 (some 38) (v := ?_) rfl rfl (by kernel_rfl) (by kernel_rfl) (by kernel_rfl) (by kernel_rfl) (by kernel_rfl) rfl (fun _ _ _ h => h) (Or.inl ⟨rfl, ?_⟩) H0 ?_
  rotate_left
  · intro W hW; have hW := HS.out W hW; go_simp; try with_reducible rfl
  simp only [put_list, List.set]
  refine Drawn.take 10 (some 39) (v := ?_) rfl rfl (by kernel_rfl) (by kernel_rfl) (by kernel_rfl) (by kernel_rfl) (by kernel_rfl) rfl (fun _ _ _ h => h) (Or.inl ⟨rfl, ?_⟩) H0 ?_
  rotate_left
  · intro W hW; have hW := HS.out W hW; go_simp; try with_reducible rfl
  simp only [put_list, List.set]
  refine Drawn.take 11 (some 40) (v := ?_) rfl rfl (by kernel_rfl) (by kernel_rfl) (by kernel_rfl) (by kernel_rfl) (by kernel_rfl) rfl (fun _ _ _ h => h) (Or.inl ⟨rfl, ?_⟩) H0 ?_
  rotate_left
  · intro W hW; have hW := HS.out W hW; go_simp; try with_reducible rfl
  simp only [put_list, List.set]
  refine Drawn.take 13 (some 42) (v := ?_) rfl rfl (by kernel_rfl) (by kernel_rfl) (by kernel_rfl) (by kernel_rfl) (by kernel_rfl) rfl (fun _ _ _ h => h) (Or.inl ⟨rfl, ?_⟩) H0 ?_
  rotate_left
  · intro W hW; have hW := HS.out W hW; go_simp; try with_reducible rfl
  simp only [put_list, List.set]
  refine Drawn.take 14 (some 43) (v := ?_) rfl rfl (by kernel_rfl) (by kernel_rfl) (by kernel_rfl) (by kernel_rfl) (by kernel_rfl) rfl (fun _ _ _ h => h) (Or.inl ⟨rfl, ?_⟩) H0 ?_
  rotate_left
  · intro W hW; have hW := HS.out W hW; go_simp; try with_reducible rfl
  simp only [put_list, List.set]
  clear H0
  generalize World.drew _ = Va at T0 ⊢
  refine Drawn.only 5 (by kernel_rfl) rfl rfl (fun K hK => ?_)
  go_simp
  refine (HM.out _).mono ?_
  rintro e V1 ⟨rfl, hb⟩
  replace T0 := T0.call hb
  refine hK _ _ (fun _ _ => T0.deed) ?_
  clear hb
  clear hK K
  try simp only [put_list, List.set]
  refine Drawn.only 8 (by kernel_rfl) rfl rfl (fun K hK => ?_)
  go_simp
  refine (HP.out _ _ T0.on).mono ?_
  rintro e V2 ⟨rfl, hl⟩
  obtain ⟨F2, T2⟩ := T0.left hl
  refine hK _ _ (fun _ _ => T2.deed) ?_
  clear hl T0
  clear hK K
  try simp only [put_list, List.set]
  refine Drawn.only 12 (by kernel_rfl) rfl rfl (fun K hK => ?_)
  go_simp
  refine (HM.out _).mono ?_
  rintro e V3 ⟨rfl, hb⟩
  replace T2 := T2.call hb
  refine hK _ _ (fun _ _ => T2.deed) ?_
  clear hb
  clear hK K
  try simp only [put_list, List.set]
  refine Drawn.only 15 (by kernel_rfl) rfl rfl (fun K hK => ?_)
  go_simp
  refine (HR.out _ T2.rk (Tw.size T2)).mono ?_
  rintro e V4 ⟨rfl, v4, k1, k2⟩
  have T4 := T2.right k1 k2
  refine hK _ _ (fun _ _ => T4.deed) ?_
  clear k1 k2 T2
  clear hK K
  try simp only [put_list, List.set]
  have H4 := T4.deed
  have HT := Lib.hid (TwB.done H.out T4)
  generalize (p.replace (nm a) s).1 = c at HP HR ⊢
  refine Drawn.take 16 (some 45) (v := ?_) rfl rfl (by kernel_rfl) (by kernel_rfl) (by kernel_rfl) (by kernel_rfl) (by kernel_rfl) rfl (fun _ _ _ h => h) (Or.inl ⟨rfl, ?_⟩) H4 ?_
  rotate_left
  · intro W hW; have hW := HS.out W hW; go_simp; try with_reducible rfl
  simp only [put_list, List.set]
  refine Drawn.take 17 (some 6) (v := ?_) rfl rfl (by kernel_rfl) (by kernel_rfl) (by kernel_rfl) (by kernel_rfl) (by kernel_rfl) rfl (fun _ _ _ h => h) (Or.inl ⟨rfl, ?_⟩) H4 ?_
  rotate_left
  · intro W hW; have hW := HS.out W hW; go_simp; try with_reducible rfl
  simp only [put_list, List.set]
  refine Drawn.take 18 (some 7) (v := ?_) rfl rfl (by kernel_rfl) (by kernel_rfl) (by kernel_rfl) (by kernel_rfl) (by kernel_rfl) rfl (fun _ _ _ h => h) (Or.inl ⟨rfl, ?_⟩) H4 ?_
  rotate_left
  · intro W hW; have hW := HS.out W hW; go_simp; try with_reducible rfl
  simp only [put_list, List.set]
  refine Drawn.take 19 (some 8) (v := ?_) rfl rfl (by kernel_rfl) (by kernel_rfl) (by kernel_rfl) (by kernel_rfl) (by kernel_rfl) rfl (fun _ _ _ h => h) (Or.inl ⟨rfl, ?_⟩) H4 ?_
  rotate_left
  · intro W hW; have hW := HS.out W hW; go_simp; try with_reducible rfl
  simp only [put_list, List.set]
  refine Drawn.done (by kernel_rfl) ?_ _
  clear H4 T4 HS HP HR HM
  go_wp2_with fail
  go_ret3
  exact ⟨_, _, _, F2, _, _, HG.out.1, HG.out.2, by omega, rfl, HT.out⟩
set_option maxRecDepth 100000 in
set_option maxHeartbeats 2000000 in
theorem does_append (h : Tw X V0 p p d N F b B v W) (hN : N < 900000) (hlen : p.L.length < 800000) (hk : k % 7 = 4) (ha : a < 256) (hs : s.length ≤ 4000000000000000000) : Calls Tryz.prog 7 #[.pointer (some ⟨d, 0, none⟩), .pointer (some ⟨b, 0, none⟩), .agg (deedC k a s n m)] W fun e W' => DoesR X V0 p N B e W' := by
  have hnl : (nm a).length ≤ maxLen := by have := nm_len a; unfold maxLen; omega
  have hnl2 : (nm a).length ≤ 1000000 := by have := nm_len a; omega
  obtain ⟨l, r, hF⟩ := Fs.exist (bsE (getE p.L (nm a)))
  have HP := Lib.hid (fun (V : World) (F' : Nat → Prop) (t : On p d N F' V) => t.append_any (xs := s) (by omega) hnl)
  have HR := Lib.hid (fun (V : World) (t : Rk p b v B V) (hB : B ≤ V.heap.size) => pappend_any t h.on.ok (nm a) s hs hB (by omega))
  have HG := Lib.hid (show Gr 1 p (p.append (nm a) s).2 ∧ (Sh p → Sh (p.append (nm a) s).2) from ⟨gr_append h.on.ok _ _, fun hh => sh_append hh (Nat.le_trans (nm_len a) (by omega)) _⟩)
  have HM := Lib.hid (fun V => name_c a ha V)
  have T0 : TwB X W k a s n m p p d N F b B v (W.alloc (.cells (deedC k a s n m) 34)) := h.box _
  replace T0 := T0.call (Below.refl _ _).drew
  have H := Lib.hid h
  have H0 := T0.deed
  have HS := Lib.hid (fun (V : World) (hV : DeedB W.heap.size k a s n m V) => hV.reads)
  have hk7 : (k : Int) % 7 = 4 := by omega
  obtain ⟨c0, c1, c2, c3, c4⟩ := H0.reads
  unfold deedC at *
  clear h hN hlen hk ha hnl hnl2 hF
  go_enter Tryz.func7, Tryz.ntmps7
  go_wp2_with fail
  clear c0 c1 c2 c3 c4
  refine Drawn.start (fun V => DeedB W.heap.size k a s n m V) (fun _ => false) (by kernel_rfl) ?_
  refine Drawn.take 0 (some 48) (v := ?_) rfl rfl (by kernel_rfl) (by kernel_rfl) (by kernel_rfl) (by kernel_rfl) (by kernel_rfl) rfl (fun _ _ _ h => h) (Or.inl ⟨rfl, ?_⟩) H0 ?_
  rotate_left
  · intro W hW; have hW := HS.out W hW; go_simp; try with_reducible rfl
  simp only [put_list, List.set]
  refine Drawn.take 1 (some 49) (v := ?_) rfl rfl (by kernel_rfl) (by kernel_rfl) (by kernel_rfl) (by kernel_rfl) (by kernel_rfl) rfl (fun _ _ _ h => h) (Or.inl ⟨rfl, ?_⟩) H0 ?_
  rotate_left
  · intro W hW; have hW := HS.out W hW; go_simp; try with_reducible rfl
  simp only [put_list, List.set]
  refine Drawn.take 2 (some 50) (v := ?_) rfl rfl (by kernel_rfl) (by kernel_rfl) (by kernel_rfl) (by kernel_rfl) (by kernel_rfl) rfl (fun _ _ _ h => h) (Or.inl ⟨rfl, ?_⟩) H0 ?_
  rotate_left
  · intro W hW; have hW := HS.out W hW; go_simp; try with_reducible rfl
  simp only [put_list, List.set]
  refine Drawn.take 3 (some 51) (v := ?_) rfl rfl (by kernel_rfl) (by kernel_rfl) (by kernel_rfl) (by kernel_rfl) (by kernel_rfl) rfl (fun _ _ _ h => h) (Or.inl ⟨rfl, ?_⟩) H0 ?_
  rotate_left
  · intro W hW; have hW := HS.out W hW; go_simp; try with_reducible rfl
  simp only [put_list, List.set]
  refine Drawn.take 4 (some 52) (v := ?_) rfl rfl (by kernel_rfl) (by kernel_rfl) (by kernel_rfl) (by kernel_rfl) (by kernel_rfl) rfl (fun _ _ _ h => h) (Or.inl ⟨rfl, ?_⟩) H0 ?_
  rotate_left
  · intro W hW; have hW := HS.out W hW; go_simp; try with_reducible rfl
  simp only [put_list, List.set]
  refine Drawn.take 6 (some 54) (v := ?_) rfl rfl (by kernel_rfl) (by kernel_rfl) (by kernel_rfl) (by kernel_rfl) (by kernel_rfl) rfl (fun _ _ _ h => h) (Or.inl ⟨rfl, ?_⟩) H0 ?_
  rotate_left
  · intro W hW; have hW := HS.out W hW; go_simp; try with_reducible rfl
  simp only [put_list, List.set]
  refine Drawn.take 7 (some 55) (v := ?_) rfl rfl (by kernel_rfl) (by kernel_rfl) (by kernel_rfl) (by kernel_rfl) (by kernel_rfl) rfl (fun _ _ _ h => h) (Or.inl ⟨rfl, ?_⟩) H0 ?_
  rotate_left
  · intro W hW; have hW := HS.out W hW; go_simp; try with_reducible rfl
  simp only [put_list, List.set]
  refine Drawn.take 9 (some 57) (v := ?_) rfl rfl (by kernel_rfl) (by kernel_rfl) (by kernel_rfl) (by kernel_rfl) (by kernel_rfl) rfl (fun _ _ _ h => h) (Or.inl ⟨rfl, ?_⟩) H0 ?_
  rotate_left
  · intro W hW; have hW := HS.out W hW; go_simp; try with_reducible rfl
  simp only [put_list, List.set]
  refine Drawn.take 10 (some 58) (v := ?_) rfl rfl (by kernel_rfl) (by kernel_rfl) (by kernel_rfl) (by kernel_rfl) (by kernel_rfl) rfl (fun _ _ _ h => h) (Or.inl ⟨rfl, ?_⟩) H0 ?_
  rotate_left
  · intro W hW; have hW := HS.out W hW; go_simp; try with_reducible rfl
  simp only [put_list, List.set]
  refine Drawn.take 11 (some 59) (v := ?_) rfl rfl (by kernel_rfl) (by kernel_rfl) (by kernel_rfl) (by kernel_rfl) (by kernel_rfl) rfl (fun _ _ _ h => h) (Or.inl ⟨rfl, ?_⟩) H0 ?_
  rotate_left
  · intro W hW; have hW := HS.out W hW; go_simp; try with_reducible rfl
  simp only [put_list, List.set]
  refine Drawn.take 13 (some 61) (v := ?_) rfl rfl (by kernel_rfl) (by kernel_rfl) (by kernel_rfl) (by kernel_rfl) (by kernel_rfl) rfl (fun _ _ _ h => h) (Or.inl ⟨rfl, ?_⟩) H0 ?_
  rotate_left
  · intro W hW; have hW := HS.out W hW; go_simp; try with_reducible rfl
  simp only [put_list, List.set]
  refine Drawn.take 14 (some 62) (v := ?_) rfl rfl (by kernel_rfl) (by kernel_rfl) (by kernel_rfl) (by kernel_rfl) (by kernel_rfl) rfl (fun _ _ _ h => h) (Or.inl ⟨rfl, ?_⟩) H0 ?_
  rotate_left
  · intro W hW; have hW := HS.out W hW; go_simp; try with_reducible rfl
  simp only [put_list, List.set]
  clear H0
  generalize World.drew _ = Va at T0 ⊢
  refine Drawn.only 5 (by kernel_rfl) rfl rfl (fun K hK => ?_)
  go_simp
  refine (HM.out _).mono ?_
  rintro e V1 ⟨rfl, hb⟩
  replace T0 := T0.call hb
  refine hK _ _ (fun _ _ => T0.deed) ?_
  clear hb
  clear hK K
  try simp only [put_list, List.set]
  refine Drawn.only 8 (by kernel_rfl) rfl rfl (fun K hK => ?_)
  go_simp
  refine (HP.out _ _ T0.on).mono ?_
  rintro e V2 ⟨rfl, hl⟩
  obtain ⟨F2, T2⟩ := T0.left hl
  refine hK _ _ (fun _ _ => T2.deed) ?_
  clear hl T0
  clear hK K
  try simp only [put_list, List.set]
  refine Drawn.only 12 (by kernel_rfl) rfl rfl (fun K hK => ?_)
  go_simp
  refine (HM.out _).mono ?_
  rintro e V3 ⟨rfl, hb⟩
  replace T2 := T2.call hb
  refine hK _ _ (fun _ _ => T2.deed) ?_
  clear hb
  clear hK K
  try simp only [put_list, List.set]
  refine Drawn.only 15 (by kernel_rfl) rfl rfl (fun K hK => ?_)
  go_simp
  refine (HR.out _ T2.rk (Tw.size T2)).mono ?_
  rintro e V4 ⟨rfl, v4, k1, k2⟩
  have T4 := T2.right k1 k2
  refine hK _ _ (fun _ _ => T4.deed) ?_
  clear k1 k2 T2
  clear hK K
  try simp only [put_list, List.set]
  have H4 := T4.deed
  have HT := Lib.hid (TwB.done H.out T4)
  generalize (p.append (nm a) s).1 = c at HP HR ⊢
  refine Drawn.take 16 (some 64) (v := ?_) rfl rfl (by kernel_rfl) (by kernel_rfl) (by kernel_rfl) (by kernel_rfl) (by kernel_rfl) rfl (fun _ _ _ h => h) (Or.inl ⟨rfl, ?_⟩) H4 ?_
  rotate_left
  · intro W hW; have hW := HS.out W hW; go_simp; try with_reducible rfl
  simp only [put_list, List.set]
  refine Drawn.take 17 (some 6) (v := ?_) rfl rfl (by kernel_rfl) (by kernel_rfl) (by kernel_rfl) (by kernel_rfl) (by kernel_rfl) rfl (fun _ _ _ h => h) (Or.inl ⟨rfl, ?_⟩) H4 ?_
  rotate_left
  · intro W hW; have hW := HS.out W hW; go_simp; try with_reducible rfl
  simp only [put_list, List.set]
  refine Drawn.take 18 (some 7) (v := ?_) rfl rfl (by kernel_rfl) (by kernel_rfl) (by kernel_rfl) (by kernel_rfl) (by kernel_rfl) rfl (fun _ _ _ h => h) (Or.inl ⟨rfl, ?_⟩) H4 ?_
  rotate_left
  · intro W hW; have hW := HS.out W hW; go_simp; try with_reducible rfl
  simp only [put_list, List.set]
  refine Drawn.take 19 (some 8) (v := ?_) rfl rfl (by kernel_rfl) (by kernel_rfl) (by kernel_rfl) (by kernel_rfl) (by kernel_rfl) rfl (fun _ _ _ h => h) (Or.inl ⟨rfl, ?_⟩) H4 ?_
  rotate_left
  · intro W hW; have hW := HS.out W hW; go_simp; try with_reducible rfl
  simp only [put_list, List.set]
  refine Drawn.done (by kernel_rfl) ?_ _
  clear H4 T4 HS HP HR HM
  go_wp2_with fail
  go_ret3
  exact ⟨_, _, _, F2, _, _, HG.out.1, HG.out.2, by omega, rfl, HT.out⟩
set_option maxRecDepth 100000 in
set_option maxHeartbeats 2000000 in
theorem does_add0 (h : Tw X V0 p p d N F b B v W) (hN : N < 900000) (hlen : p.L.length < 800000) (hk : k % 7 = 0) (ha : a < 256) : Calls Tryz.prog 7 #[.pointer (some ⟨d, 0, none⟩), .pointer (some ⟨b, 0, none⟩), .agg (deedC k a s n m)] W fun e W' => DoesR X V0 p N B e W' := by
  have hnl : (nm a).length ≤ maxLen := by have := nm_len a; unfold maxLen; omega
  have hnl2 : (nm a).length ≤ 1000000 := by have := nm_len a; omega
  obtain ⟨l, r, hF⟩ := Fs.exist (bsE (getE p.L (nm a)))
  have HP := Lib.hid (fun (V : World) (F' : Nat → Prop) (t : On p d N F' V) => t.add (xs := s) (by omega) hnl2)
  have HR := Lib.hid (fun (V : World) (t : Rk p b v B V) (hB : B ≤ V.heap.size) => padd_c t h.on.ok (nm a) s hB (by omega))
  have HG := Lib.hid (show Gr 1 p (p.add (nm a) s).2 ∧ (Sh p → Sh (p.add (nm a) s).2) from ⟨gr_add h.on.ok _ _, fun hh => sh_add hh (nm_len a) _⟩)
  have HM := Lib.hid (fun V => name_c a ha V)
  have T0 : TwB X W k a s n m p p d N F b B v (W.alloc (.cells (deedC k a s n m) 34)) := h.box _
  replace T0 := T0.call (Below.refl _ _).drew
  have H := Lib.hid h
  have H0 := T0.deed
  have HS := Lib.hid (fun (V : World) (hV : DeedB W.heap.size k a s n m V) => hV.reads)
  have hk7 : (k : Int) % 7 = 0 := by omega
  obtain ⟨c0, c1, c2, c3, c4⟩ := H0.reads
  unfold deedC at *
  clear h hN hlen hk ha hnl hnl2 hF
  go_enter Tryz.func7, Tryz.ntmps7
  go_wp2_with fail
  clear c0 c1 c2 c3 c4
  refine Drawn.start (fun V => DeedB W.heap.size k a s n m V) (fun _ => false) (by kernel_rfl) ?_
  refine Drawn.take 0 (some 91) (v := ?_) rfl rfl (by kernel_rfl) (by kernel_rfl) (by kernel_rfl) (by kernel_rfl) (by kernel_rfl) rfl (fun _ _ _ h => h) (Or.inl ⟨rfl, ?_⟩) H0 ?_
  rotate_left
  · intro W hW; have hW := HS.out W hW; go_simp; try with_reducible rfl
  simp only [put_list, List.set]
  refine Drawn.take 1 (some 92) (v := ?_) rfl rfl (by kernel_rfl) (by kernel_rfl) (by kernel_rfl) (by kernel_rfl) (by kernel_rfl) rfl (fun _ _ _ h => h) (Or.inl ⟨rfl, ?_⟩) H0 ?_
  rotate_left
  · intro W hW; have hW := HS.out W hW; go_simp; try with_reducible rfl
  simp only [put_list, List.set]
  refine Drawn.take 2 (some 93) (v := ?_) rfl rfl (by kernel_rfl) (by kernel_rfl) (by kernel_rfl) (by kernel_rfl) (by kernel_rfl) rfl (fun _ _ _ h => h) (Or.inl ⟨rfl, ?_⟩) H0 ?_
  rotate_left
  · intro W hW; have hW := HS.out W hW; go_simp; try with_reducible rfl
  simp only [put_list, List.set]
  refine Drawn.take 3 (some 94) (v := ?_) rfl rfl (by kernel_rfl) (by kernel_rfl) (by kernel_rfl) (by kernel_rfl) (by kernel_rfl) rfl (fun _ _ _ h => h) (Or.inl ⟨rfl, ?_⟩) H0 ?_
  rotate_left
  · intro W hW; have hW := HS.out W hW; go_simp; try with_reducible rfl
  simp only [put_list, List.set]
  refine Drawn.take 4 (some 95) (v := ?_) rfl rfl (by kernel_rfl) (by kernel_rfl) (by kernel_rfl) (by kernel_rfl) (by kernel_rfl) rfl (fun _ _ _ h => h) (Or.inl ⟨rfl, ?_⟩) H0 ?_
  rotate_left
  · intro W hW; have hW := HS.out W hW; go_simp; try with_reducible rfl
  simp only [put_list, List.set]
  refine Drawn.take 6 (some 97) (v := ?_) rfl rfl (by kernel_rfl) (by kernel_rfl) (by kernel_rfl) (by kernel_rfl) (by kernel_rfl) rfl (fun _ _ _ h => h) (Or.inl ⟨rfl, ?_⟩) H0 ?_
  rotate_left
  · intro W hW; have hW := HS.out W hW; go_simp; try with_reducible rfl
  simp only [put_list, List.set]
  refine Drawn.take 7 (some 98) (v := ?_) rfl rfl (by kernel_rfl) (by kernel_rfl) (by kernel_rfl) (by kernel_rfl) (by kernel_rfl) rfl (fun _ _ _ h => h) (Or.inl ⟨rfl, ?_⟩) H0 ?_
  rotate_left
  · intro W hW; have hW := HS.out W hW; go_simp; try with_reducible rfl
  simp only [put_list, List.set]
  refine Drawn.take 9 (some 100) (v := ?_) rfl rfl (by kernel_rfl) (by kernel_rfl) (by kernel_rfl) (by kernel_rfl) (by kernel_rfl) rfl (fun _ _ _ h => h) (Or.inl ⟨rfl, ?_⟩) H0 ?_
  rotate_left
  · intro W hW; have hW := HS.out W hW; go_simp; try with_reducible rfl
  simp only [put_list, List.set]
  refine Drawn.take 10 (some 101) (v := ?_) rfl rfl (by kernel_rfl) (by kernel_rfl) (by kernel_rfl) (by kernel_rfl) (by kernel_rfl) rfl (fun _ _ _ h => h) (Or.inl ⟨rfl, ?_⟩) H0 ?_
  rotate_left
  · intro W hW; have hW := HS.out W hW; go_simp; try with_reducible rfl
  simp only [put_list, List.set]
  refine Drawn.take 11 (some 102) (v := ?_) rfl rfl (by kernel_rfl) (by kernel_rfl) (by kernel_rfl) (by kernel_rfl) (by kernel_rfl) rfl (fun _ _ _ h => h) (Or.inl ⟨rfl, ?_⟩) H0 ?_
  rotate_left
  · intro W hW; have hW := HS.out W hW; go_simp; try with_reducible rfl
  simp only [put_list, List.set]
  refine Drawn.take 13 (some 104) (v := ?_) rfl rfl (by kernel_rfl) (by kernel_rfl) (by kernel_rfl) (by kernel_rfl) (by kernel_rfl) rfl (fun _ _ _ h => h) (Or.inl ⟨rfl, ?_⟩) H0 ?_
  rotate_left
  · intro W hW; have hW := HS.out W hW; go_simp; try with_reducible rfl
  simp only [put_list, List.set]
  refine Drawn.take 14 (some 105) (v := ?_) rfl rfl (by kernel_rfl) (by kernel_rfl) (by kernel_rfl) (by kernel_rfl) (by kernel_rfl) rfl (fun _ _ _ h => h) (Or.inl ⟨rfl, ?_⟩) H0 ?_
  rotate_left
  · intro W hW; have hW := HS.out W hW; go_simp; try with_reducible rfl
  simp only [put_list, List.set]
  clear H0
  generalize World.drew _ = Va at T0 ⊢
  refine Drawn.only 5 (by kernel_rfl) rfl rfl (fun K hK => ?_)
  go_simp
  refine (HM.out _).mono ?_
  rintro e V1 ⟨rfl, hb⟩
  replace T0 := T0.call hb
  refine hK _ _ (fun _ _ => T0.deed) ?_
  clear hb
  clear hK K
  try simp only [put_list, List.set]
  refine Drawn.only 8 (by kernel_rfl) rfl rfl (fun K hK => ?_)
  go_simp
  refine (HP.out _ _ T0.on).mono ?_
  rintro e V2 ⟨rfl, hl⟩
  obtain ⟨F2, T2⟩ := T0.left hl
  refine hK _ _ (fun _ _ => T2.deed) ?_
  clear hl T0
  clear hK K
  try simp only [put_list, List.set]
  refine Drawn.only 12 (by kernel_rfl) rfl rfl (fun K hK => ?_)
  go_simp
  refine (HM.out _).mono ?_
  rintro e V3 ⟨rfl, hb⟩
  replace T2 := T2.call hb
  refine hK _ _ (fun _ _ => T2.deed) ?_
  clear hb
  clear hK K
  try simp only [put_list, List.set]
  refine Drawn.only 15 (by kernel_rfl) rfl rfl (fun K hK => ?_)
  go_simp
  refine (HR.out _ T2.rk (Tw.size T2)).mono ?_
  rintro e V4 ⟨rfl, v4, k1, k2⟩
  have T4 := T2.right k1 k2
  refine hK _ _ (fun _ _ => T4.deed) ?_
  clear k1 k2 T2
  clear hK K
  try simp only [put_list, List.set]
  have H4 := T4.deed
  have HT := Lib.hid (TwB.done H.out T4)
  generalize (p.add (nm a) s).1 = c at HP HR ⊢
  refine Drawn.take 16 (some 107) (v := ?_) rfl rfl (by kernel_rfl) (by kernel_rfl) (by kernel_rfl) (by kernel_rfl) (by kernel_rfl) rfl (fun _ _ _ h => h) (Or.inl ⟨rfl, ?_⟩) H4 ?_
  rotate_left
  · intro W hW; have hW := HS.out W hW; go_simp; try with_reducible rfl
  simp only [put_list, List.set]
  refine Drawn.take 17 (some 6) (v := ?_) rfl rfl (by kernel_rfl) (by kernel_rfl) (by kernel_rfl) (by kernel_rfl) (by kernel_rfl) rfl (fun _ _ _ h => h) (Or.inl ⟨rfl, ?_⟩) H4 ?_
  rotate_left
  · intro W hW; have hW := HS.out W hW; go_simp; try with_reducible rfl
  simp only [put_list, List.set]
  refine Drawn.take 18 (some 7) (v := ?_) rfl rfl (by kernel_rfl) (by kernel_rfl) (by kernel_rfl) (by kernel_rfl) (by kernel_rfl) rfl (fun _ _ _ h => h) (Or.inl ⟨rfl, ?_⟩) H4 ?_
  rotate_left
  · intro W hW; have hW := HS.out W hW; go_simp; try with_reducible rfl
  simp only [put_list, List.set]
  refine Drawn.take 19 (some 8) (v := ?_) rfl rfl (by kernel_rfl) (by kernel_rfl) (by kernel_rfl) (by kernel_rfl) (by kernel_rfl) rfl (fun _ _ _ h => h) (Or.inl ⟨rfl, ?_⟩) H4 ?_
  rotate_left
  · intro W hW; have hW := HS.out W hW; go_simp; try with_reducible rfl
  simp only [put_list, List.set]
  refine Drawn.done (by kernel_rfl) ?_ _
  clear H4 T4 HS HP HR HM
  go_wp2_with fail
  go_ret3
  exact ⟨_, _, _, F2, _, _, HG.out.1, HG.out.2, by omega, rfl, HT.out⟩
set_option maxRecDepth 100000 in
set_option maxHeartbeats 2000000 in
theorem does_add1 (h : Tw X V0 p p d N F b B v W) (hN : N < 900000) (hlen : p.L.length < 800000) (hk : k % 7 = 1) (ha : a < 256) : Calls Tryz.prog 7 #[.pointer (some ⟨d, 0, none⟩), .pointer (some ⟨b, 0, none⟩), .agg (deedC k a s n m)] W fun e W' => DoesR X V0 p N B e W' := by
  have hnl : (nm a).length ≤ maxLen := by have := nm_len a; unfold maxLen; omega
  have hnl2 : (nm a).length ≤ 1000000 := by have := nm_len a; omega
  obtain ⟨l, r, hF⟩ := Fs.exist (bsE (getE p.L (nm a)))
  have HP := Lib.hid (fun (V : World) (F' : Nat → Prop) (t : On p d N F' V) => t.add (xs := s) (by omega) hnl2)
  have HR := Lib.hid (fun (V : World) (t : Rk p b v B V) (hB : B ≤ V.heap.size) => padd_c t h.on.ok (nm a) s hB (by omega))
  have HG := Lib.hid (show Gr 1 p (p.add (nm a) s).2 ∧ (Sh p → Sh (p.add (nm a) s).2) from ⟨gr_add h.on.ok _ _, fun hh => sh_add hh (nm_len a) _⟩)
  have HM := Lib.hid (fun V => name_c a ha V)
  have T0 : TwB X W k a s n m p p d N F b B v (W.alloc (.cells (deedC k a s n m) 34)) := h.box _
  replace T0 := T0.call (Below.refl _ _).drew
  have H := Lib.hid h
  have H0 := T0.deed
  have HS := Lib.hid (fun (V : World) (hV : DeedB W.heap.size k a s n m V) => hV.reads)
  have hk7 : (k : Int) % 7 = 1 := by omega
  obtain ⟨c0, c1, c2, c3, c4⟩ := H0.reads
  unfold deedC at *
  clear h hN hlen hk ha hnl hnl2 hF
  go_enter Tryz.func7, Tryz.ntmps7
  go_wp2_with fail
  clear c0 c1 c2 c3 c4
  refine Drawn.start (fun V => DeedB W.heap.size k a s n m V) (fun _ => false) (by kernel_rfl) ?_
  refine Drawn.take 0 (some 91) (v := ?_) rfl rfl (by kernel_rfl) (by kernel_rfl) (by kernel_rfl) (by kernel_rfl) (by kernel_rfl) rfl (fun _ _ _ h => h) (Or.inl ⟨rfl, ?_⟩) H0 ?_
  rotate_left
  · intro W hW; have hW := HS.out W hW; go_simp; try with_reducible rfl
  simp only [put_list, List.set]
  refine Drawn.take 1 (some 92) (v := ?_) rfl rfl (by kernel_rfl) (by kernel_rfl) (by kernel_rfl) (by kernel_rfl) (by kernel_rfl) rfl (fun _ _ _ h => h) (Or.inl ⟨rfl, ?_⟩) H0 ?_
  rotate_left
  · intro W hW; have hW := HS.out W hW; go_simp; try with_reducible rfl
  simp only [put_list, List.set]
  refine Drawn.take 2 (some 93) (v := ?_) rfl rfl (by kernel_rfl) (by kernel_rfl) (by kernel_rfl) (by kernel_rfl) (by kernel_rfl) rfl (fun _ _ _ h => h) (Or.inl ⟨rfl, ?_⟩) H0 ?_
  rotate_left
  · intro W hW; have hW := HS.out W hW; go_simp; try with_reducible rfl
  simp only [put_list, List.set]
  refine Drawn.take 3 (some 94) (v := ?_) rfl rfl (by kernel_rfl) (by kernel_rfl) (by kernel_rfl) (by kernel_rfl) (by kernel_rfl) rfl (fun _ _ _ h => h) (Or.inl ⟨rfl, ?_⟩) H0 ?_
  rotate_left
  · intro W hW; have hW := HS.out W hW; go_simp; try with_reducible rfl
  simp only [put_list, List.set]
  refine Drawn.take 4 (some 95) (v := ?_) rfl rfl (by kernel_rfl) (by kernel_rfl) (by kernel_rfl) (by kernel_rfl) (by kernel_rfl) rfl (fun _ _ _ h => h) (Or.inl ⟨rfl, ?_⟩) H0 ?_
  rotate_left
  · intro W hW; have hW := HS.out W hW; go_simp; try with_reducible rfl
  simp only [put_list, List.set]
  refine Drawn.take 6 (some 97) (v := ?_) rfl rfl (by kernel_rfl) (by kernel_rfl) (by kernel_rfl) (by kernel_rfl) (by kernel_rfl) rfl (fun _ _ _ h => h) (Or.inl ⟨rfl, ?_⟩) H0 ?_
  rotate_left
  · intro W hW; have hW := HS.out W hW; go_simp; try with_reducible rfl
  simp only [put_list, List.set]
  refine Drawn.take 7 (some 98) (v := ?_) rfl rfl (by kernel_rfl) (by kernel_rfl) (by kernel_rfl) (by kernel_rfl) (by kernel_rfl) rfl (fun _ _ _ h => h) (Or.inl ⟨rfl, ?_⟩) H0 ?_
  rotate_left
  · intro W hW; have hW := HS.out W hW; go_simp; try with_reducible rfl
  simp only [put_list, List.set]
  refine Drawn.take 9 (some 100) (v := ?_) rfl rfl (by kernel_rfl) (by kernel_rfl) (by kernel_rfl) (by kernel_rfl) (by kernel_rfl) rfl (fun _ _ _ h => h) (Or.inl ⟨rfl, ?_⟩) H0 ?_
  rotate_left
  · intro W hW; have hW := HS.out W hW; go_simp; try with_reducible rfl
  simp only [put_list, List.set]
  refine Drawn.take 10 (some 101) (v := ?_) rfl rfl (by kernel_rfl) (by kernel_rfl) (by kernel_rfl) (by kernel_rfl) (by kernel_rfl) rfl (fun _ _ _ h => h) (Or.inl ⟨rfl, ?_⟩) H0 ?_
  rotate_left
  · intro W hW; have hW := HS.out W hW; go_simp; try with_reducible rfl
  simp only [put_list, List.set]
  refine Drawn.take 11 (some 102) (v := ?_) rfl rfl (by kernel_rfl) (by kernel_rfl) (by kernel_rfl) (by kernel_rfl) (by kernel_rfl) rfl (fun _ _ _ h => h) (Or.inl ⟨rfl, ?_⟩) H0 ?_
  rotate_left
  · intro W hW; have hW := HS.out W hW; go_simp; try with_reducible rfl
  simp only [put_list, List.set]
  refine Drawn.take 13 (some 104) (v := ?_) rfl rfl (by kernel_rfl) (by kernel_rfl) (by kernel_rfl) (by kernel_rfl) (by kernel_rfl) rfl (fun _ _ _ h => h) (Or.inl ⟨rfl, ?_⟩) H0 ?_
  rotate_left
  · intro W hW; have hW := HS.out W hW; go_simp; try with_reducible rfl
  simp only [put_list, List.set]
  refine Drawn.take 14 (some 105) (v := ?_) rfl rfl (by kernel_rfl) (by kernel_rfl) (by kernel_rfl) (by kernel_rfl) (by kernel_rfl) rfl (fun _ _ _ h => h) (Or.inl ⟨rfl, ?_⟩) H0 ?_
  rotate_left
  · intro W hW; have hW := HS.out W hW; go_simp; try with_reducible rfl
  simp only [put_list, List.set]
  clear H0
  generalize World.drew _ = Va at T0 ⊢
  refine Drawn.only 5 (by kernel_rfl) rfl rfl (fun K hK => ?_)
  go_simp
  refine (HM.out _).mono ?_
  rintro e V1 ⟨rfl, hb⟩
  replace T0 := T0.call hb
  refine hK _ _ (fun _ _ => T0.deed) ?_
  clear hb
  clear hK K
  try simp only [put_list, List.set]
  refine Drawn.only 8 (by kernel_rfl) rfl rfl (fun K hK => ?_)
  go_simp
  refine (HP.out _ _ T0.on).mono ?_
  rintro e V2 ⟨rfl, hl⟩
  obtain ⟨F2, T2⟩ := T0.left hl
  refine hK _ _ (fun _ _ => T2.deed) ?_
  clear hl T0
  clear hK K
  try simp only [put_list, List.set]
  refine Drawn.only 12 (by kernel_rfl) rfl rfl (fun K hK => ?_)
  go_simp
  refine (HM.out _).mono ?_
  rintro e V3 ⟨rfl, hb⟩
  replace T2 := T2.call hb
  refine hK _ _ (fun _ _ => T2.deed) ?_
  clear hb
  clear hK K
  try simp only [put_list, List.set]
  refine Drawn.only 15 (by kernel_rfl) rfl rfl (fun K hK => ?_)
  go_simp
  refine (HR.out _ T2.rk (Tw.size T2)).mono ?_
  rintro e V4 ⟨rfl, v4, k1, k2⟩
  have T4 := T2.right k1 k2
  refine hK _ _ (fun _ _ => T4.deed) ?_
  clear k1 k2 T2
  clear hK K
  try simp only [put_list, List.set]
  have H4 := T4.deed
  have HT := Lib.hid (TwB.done H.out T4)
  generalize (p.add (nm a) s).1 = c at HP HR ⊢
  refine Drawn.take 16 (some 107) (v := ?_) rfl rfl (by kernel_rfl) (by kernel_rfl) (by kernel_rfl) (by kernel_rfl) (by kernel_rfl) rfl (fun _ _ _ h => h) (Or.inl ⟨rfl, ?_⟩) H4 ?_
  rotate_left
  · intro W hW; have hW := HS.out W hW; go_simp; try with_reducible rfl
  simp only [put_list, List.set]
  refine Drawn.take 17 (some 6) (v := ?_) rfl rfl (by kernel_rfl) (by kernel_rfl) (by kernel_rfl) (by kernel_rfl) (by kernel_rfl) rfl (fun _ _ _ h => h) (Or.inl ⟨rfl, ?_⟩) H4 ?_
  rotate_left
  · intro W hW; have hW := HS.out W hW; go_simp; try with_reducible rfl
  simp only [put_list, List.set]
  refine Drawn.take 18 (some 7) (v := ?_) rfl rfl (by kernel_rfl) (by kernel_rfl) (by kernel_rfl) (by kernel_rfl) (by kernel_rfl) rfl (fun _ _ _ h => h) (Or.inl ⟨rfl, ?_⟩) H4 ?_
  rotate_left
  · intro W hW; have hW := HS.out W hW; go_simp; try with_reducible rfl
  simp only [put_list, List.set]
  refine Drawn.take 19 (some 8) (v := ?_) rfl rfl (by kernel_rfl) (by kernel_rfl) (by kernel_rfl) (by kernel_rfl) (by kernel_rfl) rfl (fun _ _ _ h => h) (Or.inl ⟨rfl, ?_⟩) H4 ?_
  rotate_left
  · intro W hW; have hW := HS.out W hW; go_simp; try with_reducible rfl
  simp only [put_list, List.set]
  refine Drawn.done (by kernel_rfl) ?_ _
  clear H4 T4 HS HP HR HM
  go_wp2_with fail
  go_ret3
  exact ⟨_, _, _, F2, _, _, HG.out.1, HG.out.2, by omega, rfl, HT.out⟩
set_option maxRecDepth 100000 in
set_option maxHeartbeats 2000000 in
theorem does_arm (h : Tw X V0 p p d N F b B v W) (hN : N < 900000) (hk : k % 7 = 5) (hn : -9223372036854775808 ≤ n ∧ n ≤ 9223372036854775807) : Calls Tryz.prog 7 #[.pointer (some ⟨d, 0, none⟩), .pointer (some ⟨b, 0, none⟩), .agg (deedC k a s n m)] W fun e W' => DoesR X V0 p N B e W' := by
  have HP := Lib.hid (fun (V : World) (F' : Nat → Prop) (t : On p d N F' V) => t.arm n m hn)
  have HR := Lib.hid (fun (V : World) (t : Rk p b v B V) => parm_c t n m)
  have HG := Lib.hid (show Gr 1 p { p with after := n, torn := m } ∧ (Sh p → Sh { p with after := n, torn := m }) from ⟨(gr_arm h.on.ok n m hn).mono (show 0 ≤ 1 by omega), fun hh => hh⟩)
  have T0 : TwB X W k a s n m p p d N F b B v (W.alloc (.cells (deedC k a s n m) 34)) := h.box _
  have H := Lib.hid h
  have HNl := Lib.hid hN
  have hk7 : (k : Int) % 7 = 5 := by omega
  obtain ⟨c0, c1, c2, c3, c4⟩ := T0.deed.reads
  have HT := Lib.hid T0
  unfold deedC at *
  clear h hN hk T0 hn
  go_enter Tryz.func7, Tryz.ntmps7
  go_wp2_with fail
  clear c0 c1 c2 c3 c4
  have T0 := HT.out
  unfold deedC at T0
  refine (HP.out _ _ T0.on).mono ?_
  rintro e V2 ⟨rfl, hl⟩
  obtain ⟨F2, T2⟩ := HT.out.left hl
  obtain ⟨_, _, _, c3, c4⟩ := T2.deed.reads
  have H2 := Lib.hid T2
  clear hl T0 T2 HT
  go_wp2_with fail
  refine (HR.out _ H2.out.rk).mono ?_
  rintro e V4 ⟨rfl, k1, k2⟩
  have H4 := Lib.hid (TwB.done H.out (H2.out.right k1 k2))
  clear k1 k2 c3 c4 H2
  go_wp2_with fail
  go_ret3
  exact ⟨_, _, _, F2, _, _, HG.out.1, HG.out.2, by omega, rfl, H4.out⟩
theorem Tw.swapL {N' d' : Nat} {q' : Pd} (h : Tw X V0 q p d N F b B v W) (hl : Left q' d' N' (fun _ => False) W V) : ∃ F', Tw X V0 q' p d' N' F' b B v V := by
  obtain ⟨F', h1, h2⟩ := hl
  have hF' : ∀ j, F' j → W.heap.size ≤ j := fun j hj => (h2.new j hj).elim False.elim id
  have hb : Below W.heap.size W V := ⟨h2.os, h2.tape, h2.output, h2.size, fun j hj => h2.block j hj (fun f => f)⟩
  refine ⟨F', h1, h.rk.below hb, fun j hj hf => ?_, h2.os.trans h.os, h2.tape.trans h.tape, h2.output.trans h.output, fun j hj => ?_⟩
  · have := (h.rk.lt hj).1; have := hF' j hf; omega
  · obtain ⟨k1, k2, k3, k4⟩ := h.ext j hj
    exact ⟨Nat.lt_of_lt_of_le k1 h2.size, fun hf => by have := hF' j hf; omega, k3, (hb.block j k1).trans k4⟩
theorem Tw.swapR {p' : Pd} {v' : Value} (h : Tw X V0 q p d N F b B v W) (h1 : Rk p' W.heap.size v' W.heap.size V) (hb : Below W.heap.size W V) : Tw X V0 q p' d N F W.heap.size B v' V := by
  have h' := h.call hb
  refine ⟨h'.on, h1.from h.size, fun j hj hf => ?_, h'.os, h'.tape, h'.output, fun j hj => ?_⟩
  · have := (h1.lt hj).2; have := h.on.lt hf; omega
  · obtain ⟨k1, k2, k3, k4⟩ := h'.ext j hj
    have := (h.ext j hj).1
    exact ⟨k1, k2, fun hf => by have := (h1.lt hf).2; omega, k4⟩
set_option maxRecDepth 100000 in
set_option maxHeartbeats 2000000 in
theorem does_lost (h : Tw X V0 p p d N F b B v W) (hN : N < 900000) (hk : k % 7 = 6) (hroom : p.room * N ≤ 100000000) : Calls Tryz.prog 7 #[.pointer (some ⟨d, 0, none⟩), .pointer (some ⟨b, 0, none⟩), .agg (deedC k a s n m)] W fun e W' => DoesR X V0 p N B e W' := by
  have HP := Lib.hid (fun (V : World) (F' : Nat → Prop) (t : On p d N F' V) => t.lost (by omega) hroom n)
  have HR := Lib.hid (fun (V : World) (t : Rk p b v B V) => plost_c t h.on.ok n)
  have HG := Lib.hid (show Gr 1 p (p.lost n) ∧ (Sh p → Sh (p.lost n)) from ⟨(gr_lost h.on.ok n).mono (show 0 ≤ 1 by omega), fun hh => sh_lost hh n⟩)
  have T0 : TwB X W k a s n m p p d N F b B v (W.alloc (.cells (deedC k a s n m) 34)) := h.box _
  have H := Lib.hid h
  have HNl := Lib.hid hN
  have hk7 : (k : Int) % 7 = 6 := by omega
  replace T0 := T0.call (Below.refl _ _).drew
  have H0 := T0.deed
  have HS := Lib.hid (fun (V : World) (hV : DeedB W.heap.size k a s n m V) => hV.reads)
  obtain ⟨c0, c1, c2, c3, c4⟩ := H0.reads
  unfold deedC at *
  clear h hN hk hroom
  go_enter Tryz.func7, Tryz.ntmps7
  go_wp2_with fail
  clear c0 c1 c2 c3 c4
  refine Drawn.start (fun V => DeedB W.heap.size k a s n m V) (fun _ => false) (by kernel_rfl) ?_
  refine Drawn.take 0 (some 83) (v := ?_) rfl rfl (by kernel_rfl) (by kernel_rfl) (by kernel_rfl) (by kernel_rfl) (by kernel_rfl) rfl (fun _ _ _ h => h) (Or.inl ⟨rfl, ?_⟩) H0 ?_
  rotate_left
  · intro W hW; have hW := HS.out W hW; go_simp; try with_reducible rfl
  simp only [put_list, List.set]
  refine Drawn.take 1 (some 84) (v := ?_) rfl rfl (by kernel_rfl) (by kernel_rfl) (by kernel_rfl) (by kernel_rfl) (by kernel_rfl) rfl (fun _ _ _ h => h) (Or.inl ⟨rfl, ?_⟩) H0 ?_
  rotate_left
  · intro W hW; have hW := HS.out W hW; go_simp; try with_reducible rfl
  simp only [put_list, List.set]
  refine Drawn.take 2 (some 85) (v := ?_) rfl rfl (by kernel_rfl) (by kernel_rfl) (by kernel_rfl) (by kernel_rfl) (by kernel_rfl) rfl (fun _ _ _ h => h) (Or.inl ⟨rfl, ?_⟩) H0 ?_
  rotate_left
  · intro W hW; have hW := HS.out W hW; go_simp; try with_reducible rfl
  simp only [put_list, List.set]
  refine Drawn.take 4 (some 87) (v := ?_) rfl rfl (by kernel_rfl) (by kernel_rfl) (by kernel_rfl) (by kernel_rfl) (by kernel_rfl) rfl (fun _ _ _ h => h) (Or.inl ⟨rfl, ?_⟩) H0 ?_
  rotate_left
  · intro W hW; have hW := HS.out W hW; go_simp; try with_reducible rfl
  simp only [put_list, List.set]
  refine Drawn.take 5 (some 88) (v := ?_) rfl rfl (by kernel_rfl) (by kernel_rfl) (by kernel_rfl) (by kernel_rfl) (by kernel_rfl) rfl (fun _ _ _ h => h) (Or.inl ⟨rfl, ?_⟩) H0 ?_
  rotate_left
  · intro W hW; have hW := HS.out W hW; go_simp; try with_reducible rfl
  simp only [put_list, List.set]
  refine Drawn.take 6 (some 89) (v := ?_) rfl rfl (by kernel_rfl) (by kernel_rfl) (by kernel_rfl) (by kernel_rfl) (by kernel_rfl) rfl (fun _ _ _ h => h) (Or.inl ⟨rfl, ?_⟩) H0 ?_
  rotate_left
  · intro W hW; have hW := HS.out W hW; go_simp; try with_reducible rfl
  simp only [put_list, List.set]
  clear H0
  generalize World.drew _ = Va at T0 ⊢
  refine Drawn.only 3 (by kernel_rfl) rfl rfl (fun K hK => ?_)
  go_simp
  refine (HP.out _ _ T0.on).mono ?_
  rintro e V2 ⟨zd, rfl, hl⟩
  obtain ⟨F2, T2⟩ := Tw.swapL T0 hl
  refine hK _ _ (fun _ _ => TwB.deed T2) ?_
  clear hl T0 hK K
  try simp only [put_list, List.set]
  refine Drawn.only 7 (by kernel_rfl) rfl rfl (fun K hK => ?_)
  go_simp
  refine (HR.out _ T2.rk).mono ?_
  rintro e V4 ⟨rfl, ⟨v4, k1⟩, k2, _⟩
  have T4 := Tw.swapR T2 k1 k2
  refine hK _ _ (fun _ _ => TwB.deed T4) ?_
  clear k1 k2 T2 hK K
  try simp only [put_list, List.set]
  have H4 := TwB.deed T4
  have HT := Lib.hid (TwB.done H.out T4)
  refine Drawn.take 8 (some 6) (v := ?_) rfl rfl (by kernel_rfl) (by kernel_rfl) (by kernel_rfl) (by kernel_rfl) (by kernel_rfl) rfl (fun _ _ _ h => h) (Or.inl ⟨rfl, ?_⟩) H4 ?_
  rotate_left
  · intro W hW; have hW := HS.out W hW; go_simp; try with_reducible rfl
  simp only [put_list, List.set]
  refine Drawn.take 9 (some 7) (v := ?_) rfl rfl (by kernel_rfl) (by kernel_rfl) (by kernel_rfl) (by kernel_rfl) (by kernel_rfl) rfl (fun _ _ _ h => h) (Or.inl ⟨rfl, ?_⟩) H4 ?_
  rotate_left
  · intro W hW; have hW := HS.out W hW; go_simp; try with_reducible rfl
  simp only [put_list, List.set]
  refine Drawn.take 10 (some 8) (v := ?_) rfl rfl (by kernel_rfl) (by kernel_rfl) (by kernel_rfl) (by kernel_rfl) (by kernel_rfl) rfl (fun _ _ _ h => h) (Or.inl ⟨rfl, ?_⟩) H4 ?_
  rotate_left
  · intro W hW; have hW := HS.out W hW; go_simp; try with_reducible rfl
  simp only [put_list, List.set]
  refine Drawn.done (by kernel_rfl) ?_ _
  clear H4 T4 HS HP HR
  go_wp2_with fail
  go_ret3
  exact ⟨_, _, _, F2, _, _, HG.out.1, HG.out.2, by omega, rfl, HT.out⟩
theorem does_c (h : Tw X V0 p p d N F b B v W) (hN : N < 900000) (hlen : p.L.length < 800000) (ha : a < 256) (hs : s.length ≤ 4000000000000000000) (hn : -9223372036854775808 ≤ n ∧ n ≤ 9223372036854775807) (hroom : p.room * N ≤ 100000000) : Calls Tryz.prog 7 #[.pointer (some ⟨d, 0, none⟩), .pointer (some ⟨b, 0, none⟩), .agg (deedC k a s n m)] W fun e W' => DoesR X V0 p N B e W' := by
  have h7 : k % 7 = 0 ∨ k % 7 = 1 ∨ k % 7 = 2 ∨ k % 7 = 3 ∨ k % 7 = 4 ∨ k % 7 = 5 ∨ k % 7 = 6 := by omega
  rcases h7 with h7 | h7 | h7 | h7 | h7 | h7 | h7
  · exact does_add0 h hN hlen h7 ha
  · exact does_add1 h hN hlen h7 ha
  · exact does_mend h hN hlen h7 ha
  · exact does_replace h hN hlen h7 ha
  · exact does_append h hN hlen h7 ha hs
  · exact does_arm h hN h7 hn
  · exact does_lost h hN h7 hroom
end
end Go.Proofs.YtialfpkmcafkmaaGreat
