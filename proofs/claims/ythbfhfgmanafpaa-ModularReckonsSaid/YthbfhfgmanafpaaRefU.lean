/- The contracts of the reference's Div and Mod. -/
import Derived.Test.YthbfhfgmanafpaaRefS
import Derived.Test.YthbfhfgmanafpaaRefT
import Derived.Test.YthbfhfgmanafpaaAmong
import Derived.Deep.Cut
namespace Go.Proofs.Ythbfhfgmanafpaa
open Go.RowKit Go.Joins
attribute [local go_sem ↓] Go.wp_at_zero Go.wp_at_succ

theorem BytesRow.far {W : World} {g n c b6 : Nat} {b : Nat → Nat} (h : BytesRow W (.slice (some ⟨g, 0, none⟩) n c) n b) (hne : g ≠ b6) (u0 u1 u2 u3 : Value) :
    BytesRow ((((W.setCell ⟨b6, 0, none⟩ u0).setCell ⟨b6, 1, none⟩ u1).setCell ⟨b6, 2, none⟩ u2).setCell ⟨b6, 3, none⟩ u3) (.slice (some ⟨g, 0, none⟩) n c) n b := by
  obtain ⟨g', c', e, h1, h2⟩ := h
  injection e with e1 e2 e3
  injection e1 with e1
  injection e1 with e1
  subst e1
  have hh := heap_far (w := W) hne u0 u1 u2 u3
  have hs : W.heap.size = ((((W.setCell ⟨b6, 0, none⟩ u0).setCell ⟨b6, 1, none⟩ u1).setCell ⟨b6, 2, none⟩ u2).setCell ⟨b6, 3, none⟩ u3).heap.size := by simp [World.setCell]
  generalize (((W.setCell ⟨b6, 0, none⟩ u0).setCell ⟨b6, 1, none⟩ u1).setCell ⟨b6, 2, none⟩ u2).setCell ⟨b6, 3, none⟩ u3 = W1 at *
  exact ⟨g, c, rfl, hs ▸ h1, fun j hj => (World.cell?_of_block (a := ⟨g, j, none⟩) hh).trans (h2 j hj)⟩
theorem BytesRow.lt' {W : World} {g n c : Nat} {b : Nat → Nat} (h : BytesRow W (.slice (some ⟨g, 0, none⟩) n c) n b) : g < W.heap.size := by
  obtain ⟨g', c', e, h1, h2⟩ := h
  injection e with e1 e2 e3
  injection e1 with e1
  injection e1 with e1
  subst e1
  exact h1

set_option maxRecDepth 100000 in
set_option maxHeartbeats 8000000 in
theorem rDiv_d {x y b3 b2 b1 b0 a3 a2 a1 a0 : Nat} (hx : Dig x a0 a1 a2 a3) (hy : Dig y b0 b1 b2 b3) (w : World) :
    Calls Try.prog 36 #[.agg #[.int .u64 a3, .int .u64 a2, .int .u64 a1, .int .u64 a0], .agg #[.int .u64 b3, .int .u64 b2, .int .u64 b1, .int .u64 b0]] w (RetD (x / y) w) := by
  by_cases h0 : y = 0
  · subst h0
    obtain ⟨rfl, rfl, rfl, rfl⟩ := hy.inj dig_zero
    have H := ((((Fx.start w).new #[.int .u64 a3, .int .u64 a2, .int .u64 a1, .int .u64 a0] 24).new #[.int .u64 0, .int .u64 0, .int .u64 0, .int .u64 0] 24).new #[.int .u64 0, .int .u64 0, .int .u64 0, .int .u64 0] 24).1
    have hE := fun w => eq_words 0 0 0 0 0 0 0 0 w
    clear hx hy
    go_enter Try.func36, Try.ntmps36
    have K0 := H.know (_, _, _) List.mem_cons_self
    obtain ⟨⟨r0, r1, r2, r3⟩, g0, g1, g2, g3⟩ := cells4 K0.2
    have kB := H.row (.tail _ (.head _))
    replace K0 := Lib.hid K0
    have HH := Lib.hid H; clear H
    go_wp2_with fail
    exact bodyPost_ret (results_cell_row Try.results36 _ _ _ _ _ _ _ rfl K0.out.2 Try.underlying24 rfl (by kernel_rfl)) rfl
      ⟨0, 0, 0, 0, rfl, by first | exact dig_zero | (rw [Nat.div_zero]; exact dig_zero), HH.out.below⟩
  · have H := ((((Fx.start w).new #[.int .u64 a3, .int .u64 a2, .int .u64 a1, .int .u64 a0] 24).new #[.int .u64 b3, .int .u64 b2, .int .u64 b1, .int .u64 b0] 24).new #[.int .u64 0, .int .u64 0, .int .u64 0, .int .u64 0] 24).1
    have hE : ∀ w, (binOp .eql 24 (.agg #[.int .u64 b3, .int .u64 b2, .int .u64 b1, .int .u64 b0]) (.agg #[.int .u64 0, .int .u64 0, .int .u64 0, .int .u64 0])).run Try.prog w = .ok (.bool false) w := fun w => eq_word_not hy dig_zero h0 w
    have HX := Lib.hid hx; have HY := Lib.hid hy; have HP := Lib.hid (Nat.pos_of_ne_zero h0)
    have HW := Lib.hid (show x < 256 ^ 32 by rw [← W256_bytes]; exact hx.lt)
    skip
    clear hx hy
    go_enter Try.func36, Try.ntmps36
    have kB := H.row (.tail _ (.head _))
    go_wp2_with fail
    clear hE kB
    have HS := Lib.hid H.read3
    refine wp_cut (fun a' W => ∃ (b6 gq : Nat) (va : Value) (r0 r1 r2 r3 : Nat), a' = ⟨#[.agg #[.int .u64 a3, .int .u64 a2, .int .u64 a1, .int .u64 a0], .agg #[.int .u64 b3, .int .u64 b2, .int .u64 b1, .int .u64 b0], .pointer (some ⟨w.heap.size, 0, none⟩), .pointer (some ⟨w.heap.size + 1, 0, none⟩), .pointer (some ⟨w.heap.size + 1 + 1, 0, none⟩), .slice (some ⟨gq, 0, none⟩) 32 32, .pointer (some ⟨b6, 0, none⟩), .agg #[.int .u64 b3, .int .u64 b2, .int .u64 b1, .int .u64 b0], .agg #[.int .u64 0, .int .u64 0, .int .u64 0, .int .u64 0], .bool false, undef, .tuple #[.slice (some ⟨gq, 0, none⟩) 32 32, .agg #[.int .u64 r3, .int .u64 r2, .int .u64 r1, .int .u64 r0]], .agg #[.int .u64 a3, .int .u64 a2, .int .u64 a1, .int .u64 a0], va, .agg #[.int .u64 b3, .int .u64 b2, .int .u64 b1, .int .u64 b0], .tuple #[.slice (some ⟨gq, 0, none⟩) 32 32, .agg #[.int .u64 r3, .int .u64 r2, .int .u64 r1, .int .u64 r0]], .slice (some ⟨gq, 0, none⟩) 32 32, .agg #[.int .u64 r3, .int .u64 r2, .int .u64 r1, .int .u64 r0], undef, undef], []⟩ ∧ BytesRow W (.slice (some ⟨gq, 0, none⟩) 32 32) 32 (byteOf (x / y)) ∧ Dig (x % y) r0 r1 r2 r3 ∧
      Fr w w.heap.size (w.heap.size + 1 + 1 + 1) [(w.heap.size + 1 + 1, #[.int .u64 0, .int .u64 0, .int .u64 0, .int .u64 0], 24), (w.heap.size + 1, #[.int .u64 b3, .int .u64 b2, .int .u64 b1, .int .u64 b0], 24), (w.heap.size, #[.int .u64 a3, .int .u64 a2, .int .u64 a1, .int .u64 a0], 24)] W ∧ W.heap[b6]? = some (.cells #[.int .u64 r3, .int .u64 r2, .int .u64 r1, .int .u64 r0] 24 (0, 0))) ?rest ?tree
    case rest =>
      rintro a' W ⟨b6, gq, va, r0, r1, r2, r3, rfl, hq, hr, F, e6⟩
      clear H HS
      have HR := Lib.hid hr; clear hr
      have c5 := (cells4 e6).1
      clear e6
      go_wp2_with fail
      refine (Join_b (by decide) (by decide) _ hq (byteOf_lt (x / y))).mono ?_
      rintro e w4 ⟨p3, p2, p1, p0, rfl, hd, hb4⟩
      rw [lowB_all (Nat.lt_of_le_of_lt (Nat.div_le_self _ _) HX.out.lt)] at hd
      replace F := F.call hb4
      have k := F.know (_, _, _) List.mem_cons_self
      obtain ⟨⟨k0, k1, k2, k3⟩, g0, g1, g2, g3⟩ := cells4 k.2
      have K := Lib.hid k; have HD := Lib.hid hd; clear k hb4 hq hd c5
      go_wp2_with fail
      exact bodyPost_ret (results_cell_row Try.results36 _ _ _ _ _ _ _ rfl (heap_set4 K.out.2 _ _ _ _) Try.underlying24 rfl (by kernel_rfl)) rfl
        ⟨_, _, _, _, rfl, HD.out, below_set4 F.below (by omega) _ _ _ _⟩
    intro J K' hJ hK'
    have H0 := H.drew
    refine Drawn.startEx (fun i => i == 9) H (by kernel_rfl) ?_
    clear H
    refine Drawn.take 0 (some 12) (v := ?_) rfl rfl (by kernel_rfl) (by kernel_rfl) (by kernel_rfl) (by kernel_rfl) (by kernel_rfl) rfl (fun _ _ _ h => h) (Or.inl ⟨rfl, ?_⟩) H0 ?_
    rotate_left
    · intro W hW; have hW := HS.out W hW; go_simp; try with_reducible rfl
    simp only [put_list, List.set]
    refine Drawn.take 2 (some 14) (v := ?_) rfl rfl (by kernel_rfl) (by kernel_rfl) (by kernel_rfl) (by kernel_rfl) (by kernel_rfl) rfl (fun _ _ _ h => h) (Or.inl ⟨rfl, ?_⟩) H0 ?_
    rotate_left
    · intro W hW; have hW := HS.out W hW; go_simp; try with_reducible rfl
    simp only [put_list, List.set]
    have H1 := H0
    clear H0
    generalize World.drew _ = W0 at H1 ⊢
    refine Drawn.among [1, 7] (by kernel_rfl) (by decide) ?_
    intro i hi
    simp only [List.mem_cons, List.not_mem_nil, or_false] at hi
    rcases hi with rfl | rfl
    · refine ⟨_, rfl, rfl, fun K hK => ?_⟩
      go_simp
      refine (Digits_b HX.out _).mono ?_
      rintro e w1 ⟨va, rfl, hva, hb⟩
      refine hK _ _ (fun _ _ => H1.call hb) ?_
      replace H1 := H1.call hb
      clear hK K hb
      refine Drawn.among [3, 7] (by kernel_rfl) (by decide) ?_
      intro i hi
      simp only [List.mem_cons, List.not_mem_nil, or_false] at hi
      rcases hi with rfl | rfl
      · refine ⟨_, rfl, rfl, fun K hK => ?_⟩
        go_simp
        refine (Divide_c (Or.inl rfl) HW.out HY.out HP.out _ hva).mono ?_
        rintro e w2 ⟨r0, r1, r2, r3, rfl, hq, hr, hb⟩
        have HR := Lib.hid hr
        refine hK _ _ (fun _ _ => H1.call hb) ?_
        replace H1 := H1.call hb
        clear hK K hb hr
        refine Drawn.take 4 (some 11) (v := ?_) rfl rfl (by kernel_rfl) (by kernel_rfl) (by kernel_rfl) (by kernel_rfl) (by kernel_rfl) rfl (fun _ _ _ h => h) (Or.inl ⟨rfl, ?_⟩) H1 ?_
        rotate_left
        · intro W hW; have hW := HS.out W hW; go_simp; try with_reducible rfl
        simp only [put_list, List.set]
        refine Drawn.take 5 (some 16) (v := ?_) rfl rfl (by kernel_rfl) (by kernel_rfl) (by kernel_rfl) (by kernel_rfl) (by kernel_rfl) rfl (fun _ _ _ h => h) (Or.inl ⟨rfl, ?_⟩) H1 ?_
        rotate_left
        · intro W hW; have hW := HS.out W hW; go_simp; try with_reducible rfl
        simp only [put_list, List.set]
        refine Drawn.take 6 (some 17) (v := ?_) rfl rfl (by kernel_rfl) (by kernel_rfl) (by kernel_rfl) (by kernel_rfl) (by kernel_rfl) rfl (fun _ _ _ h => h) (Or.inl ⟨rfl, ?_⟩) H1 ?_
        rotate_left
        · intro W hW; have hW := HS.out W hW; go_simp; try with_reducible rfl
        simp only [put_list, List.set]
        refine Drawn.only 7 (by kernel_rfl) rfl rfl (fun K hK => ?_)
        go_simp
        refine hK _ _ (fun _ _ => H1.alloc _) ?_
        clear hK K
        have h6 : New4 (w.heap.size + 1 + 1 + 1) (.int .u64 0) (.int .u64 0) (.int .u64 0) (.int .u64 0) 24 _ _ := New4.here _ H1.size
        have hne := Nat.ne_of_lt hq.lt'
        replace hq := hq.call ((Below.refl _ _).alloc (Nat.le_refl _) (.cells #[.int .u64 0, .int .u64 0, .int .u64 0, .int .u64 0] 24))
        replace H1 := H1.alloc (.cells #[.int .u64 0, .int .u64 0, .int .u64 0, .int .u64 0] 24)
        generalize World.alloc _ _ = V1 at H1 h6 hq ⊢
        refine Drawn.take 8 (some 5) (v := ?_) rfl rfl (by kernel_rfl) (by kernel_rfl) (by kernel_rfl) (by kernel_rfl) (by kernel_rfl) rfl (fun _ _ _ h => h) (Or.inl ⟨rfl, ?_⟩) H1 ?_
        rotate_left
        · intro W hW; have hW := HS.out W hW; go_simp; try with_reducible rfl
        simp only [put_list, List.set]
        obtain ⟨⟨c0, c1, c2, c3⟩, g0, g1, g2, g3⟩ := h6.cells
        have hq2 := hq.far hne (.int .u64 (r3 : Nat)) (.int .u64 (r2 : Nat)) (.int .u64 (r1 : Nat)) (.int .u64 (r0 : Nat))
        refine Drawn.only 9 (by kernel_rfl) rfl rfl (fun K hK => ?_)
        go_simp
        refine hK _ _ (fun h => by simp at h) ?_
        exact Drawn.done (by kernel_rfl) (hK' _ _ (Met.intro (hJ _ _ ⟨_, _, va, r0, r1, r2, r3, rfl, hq2, HR.out, H1.set4 h6.ge _ _ _ _, heap_set4 h6.1 _ _ _ _⟩))) _
      · refine ⟨_, rfl, rfl, fun K hK => ?_⟩
        go_simp
        refine hK _ _ (fun _ _ => H1.alloc _) ?_
        clear hK K
        have h6 : New4 (w.heap.size + 1 + 1 + 1) (.int .u64 0) (.int .u64 0) (.int .u64 0) (.int .u64 0) 24 _ _ := New4.here _ H1.size
        replace hva := hva.call ((Below.refl _ _).alloc (Nat.le_refl _) (.cells #[.int .u64 0, .int .u64 0, .int .u64 0, .int .u64 0] 24))
        replace H1 := H1.alloc (.cells #[.int .u64 0, .int .u64 0, .int .u64 0, .int .u64 0] 24)
        generalize World.alloc _ _ = V1 at H1 h6 hva ⊢
        refine Drawn.only 3 (by kernel_rfl) rfl rfl (fun K hK => ?_)
        go_simp
        refine (Divide_c (Or.inl rfl) HW.out HY.out HP.out _ hva).mono ?_
        rintro e w2 ⟨r0, r1, r2, r3, rfl, hq, hr, hb⟩
        have HR := Lib.hid hr
        refine hK _ _ (fun _ _ => H1.call hb) ?_
        have hne := (Nat.ne_of_gt (Nat.lt_succ_of_lt (Nat.lt_succ_of_lt h6.2.1)))
        replace h6 := carry4 hb h6
        replace H1 := H1.call hb
        clear hK K hb hr
        refine Drawn.take 4 (some 11) (v := ?_) rfl rfl (by kernel_rfl) (by kernel_rfl) (by kernel_rfl) (by kernel_rfl) (by kernel_rfl) rfl (fun _ _ _ h => h) (Or.inl ⟨rfl, ?_⟩) H1 ?_
        rotate_left
        · intro W hW; have hW := HS.out W hW; go_simp; try with_reducible rfl
        simp only [put_list, List.set]
        refine Drawn.take 5 (some 16) (v := ?_) rfl rfl (by kernel_rfl) (by kernel_rfl) (by kernel_rfl) (by kernel_rfl) (by kernel_rfl) rfl (fun _ _ _ h => h) (Or.inl ⟨rfl, ?_⟩) H1 ?_
        rotate_left
        · intro W hW; have hW := HS.out W hW; go_simp; try with_reducible rfl
        simp only [put_list, List.set]
        refine Drawn.take 6 (some 17) (v := ?_) rfl rfl (by kernel_rfl) (by kernel_rfl) (by kernel_rfl) (by kernel_rfl) (by kernel_rfl) rfl (fun _ _ _ h => h) (Or.inl ⟨rfl, ?_⟩) H1 ?_
        rotate_left
        · intro W hW; have hW := HS.out W hW; go_simp; try with_reducible rfl
        simp only [put_list, List.set]
        refine Drawn.take 8 (some 5) (v := ?_) rfl rfl (by kernel_rfl) (by kernel_rfl) (by kernel_rfl) (by kernel_rfl) (by kernel_rfl) rfl (fun _ _ _ h => h) (Or.inl ⟨rfl, ?_⟩) H1 ?_
        rotate_left
        · intro W hW; have hW := HS.out W hW; go_simp; try with_reducible rfl
        simp only [put_list, List.set]
        obtain ⟨⟨c0, c1, c2, c3⟩, g0, g1, g2, g3⟩ := h6.cells
        have hq2 := hq.far hne (.int .u64 (r3 : Nat)) (.int .u64 (r2 : Nat)) (.int .u64 (r1 : Nat)) (.int .u64 (r0 : Nat))
        refine Drawn.only 9 (by kernel_rfl) rfl rfl (fun K hK => ?_)
        go_simp
        refine hK _ _ (fun h => by simp at h) ?_
        exact Drawn.done (by kernel_rfl) (hK' _ _ (Met.intro (hJ _ _ ⟨_, _, va, r0, r1, r2, r3, rfl, hq2, HR.out, H1.set4 h6.ge _ _ _ _, heap_set4 h6.1 _ _ _ _⟩))) _
    · refine ⟨_, rfl, rfl, fun K hK => ?_⟩
      go_simp
      refine hK _ _ (fun _ _ => H1.alloc _) ?_
      clear hK K
      have h6 : New4 (w.heap.size + 1 + 1 + 1) (.int .u64 0) (.int .u64 0) (.int .u64 0) (.int .u64 0) 24 _ _ := New4.here _ H1.size
      replace H1 := H1.alloc (.cells #[.int .u64 0, .int .u64 0, .int .u64 0, .int .u64 0] 24)
      generalize World.alloc _ _ = V1 at H1 h6 ⊢
      refine Drawn.only 1 (by kernel_rfl) rfl rfl (fun K hK => ?_)
      go_simp
      refine (Digits_b HX.out _).mono ?_
      rintro e w1 ⟨va, rfl, hva, hb⟩
      refine hK _ _ (fun _ _ => H1.call hb) ?_
      replace h6 := carry4 hb h6
      replace H1 := H1.call hb
      clear hK K hb
      refine Drawn.only 3 (by kernel_rfl) rfl rfl (fun K hK => ?_)
      go_simp
      refine (Divide_c (Or.inl rfl) HW.out HY.out HP.out _ hva).mono ?_
      rintro e w2 ⟨r0, r1, r2, r3, rfl, hq, hr, hb⟩
      have HR := Lib.hid hr
      refine hK _ _ (fun _ _ => H1.call hb) ?_
      have hne := (Nat.ne_of_gt (Nat.lt_succ_of_lt (Nat.lt_succ_of_lt h6.2.1)))
      replace h6 := carry4 hb h6
      replace H1 := H1.call hb
      clear hK K hb hr
      refine Drawn.take 4 (some 11) (v := ?_) rfl rfl (by kernel_rfl) (by kernel_rfl) (by kernel_rfl) (by kernel_rfl) (by kernel_rfl) rfl (fun _ _ _ h => h) (Or.inl ⟨rfl, ?_⟩) H1 ?_
      rotate_left
      · intro W hW; have hW := HS.out W hW; go_simp; try with_reducible rfl
      simp only [put_list, List.set]
      refine Drawn.take 5 (some 16) (v := ?_) rfl rfl (by kernel_rfl) (by kernel_rfl) (by kernel_rfl) (by kernel_rfl) (by kernel_rfl) rfl (fun _ _ _ h => h) (Or.inl ⟨rfl, ?_⟩) H1 ?_
      rotate_left
      · intro W hW; have hW := HS.out W hW; go_simp; try with_reducible rfl
      simp only [put_list, List.set]
      refine Drawn.take 6 (some 17) (v := ?_) rfl rfl (by kernel_rfl) (by kernel_rfl) (by kernel_rfl) (by kernel_rfl) (by kernel_rfl) rfl (fun _ _ _ h => h) (Or.inl ⟨rfl, ?_⟩) H1 ?_
      rotate_left
      · intro W hW; have hW := HS.out W hW; go_simp; try with_reducible rfl
      simp only [put_list, List.set]
      refine Drawn.take 8 (some 5) (v := ?_) rfl rfl (by kernel_rfl) (by kernel_rfl) (by kernel_rfl) (by kernel_rfl) (by kernel_rfl) rfl (fun _ _ _ h => h) (Or.inl ⟨rfl, ?_⟩) H1 ?_
      rotate_left
      · intro W hW; have hW := HS.out W hW; go_simp; try with_reducible rfl
      simp only [put_list, List.set]
      obtain ⟨⟨c0, c1, c2, c3⟩, g0, g1, g2, g3⟩ := h6.cells
      have hq2 := hq.far hne (.int .u64 (r3 : Nat)) (.int .u64 (r2 : Nat)) (.int .u64 (r1 : Nat)) (.int .u64 (r0 : Nat))
      refine Drawn.only 9 (by kernel_rfl) rfl rfl (fun K hK => ?_)
      go_simp
      refine hK _ _ (fun h => by simp at h) ?_
      exact Drawn.done (by kernel_rfl) (hK' _ _ (Met.intro (hJ _ _ ⟨_, _, va, r0, r1, r2, r3, rfl, hq2, HR.out, H1.set4 h6.ge _ _ _ _, heap_set4 h6.1 _ _ _ _⟩))) _

set_option maxRecDepth 100000 in
set_option maxHeartbeats 8000000 in
theorem rMod_d {x y b3 b2 b1 b0 a3 a2 a1 a0 : Nat} (hx : Dig x a0 a1 a2 a3) (hy : Dig y b0 b1 b2 b3) (w : World) :
    Calls Try.prog 40 #[.agg #[.int .u64 a3, .int .u64 a2, .int .u64 a1, .int .u64 a0], .agg #[.int .u64 b3, .int .u64 b2, .int .u64 b1, .int .u64 b0]] w (RetD (if y = 0 then 0 else x % y) w) := by
  by_cases h0 : y = 0
  · subst h0
    obtain ⟨rfl, rfl, rfl, rfl⟩ := hy.inj dig_zero
    have H := ((((Fx.start w).new #[.int .u64 a3, .int .u64 a2, .int .u64 a1, .int .u64 a0] 24).new #[.int .u64 0, .int .u64 0, .int .u64 0, .int .u64 0] 24).new #[.int .u64 0, .int .u64 0, .int .u64 0, .int .u64 0] 24).1
    have hE := fun w => eq_words 0 0 0 0 0 0 0 0 w
    clear hx hy
    go_enter Try.func40, Try.ntmps40
    have K0 := H.know (_, _, _) List.mem_cons_self
    obtain ⟨⟨r0, r1, r2, r3⟩, g0, g1, g2, g3⟩ := cells4 K0.2
    have kB := H.row (.tail _ (.head _))
    replace K0 := Lib.hid K0
    have HH := Lib.hid H; clear H
    go_wp2_with fail
    exact bodyPost_ret (results_cell_row Try.results40 _ _ _ _ _ _ _ rfl K0.out.2 Try.underlying24 rfl (by kernel_rfl)) rfl
      ⟨0, 0, 0, 0, rfl, by first | exact dig_zero | (rw [if_pos rfl]; exact dig_zero), HH.out.below⟩
  · have H := ((((Fx.start w).new #[.int .u64 a3, .int .u64 a2, .int .u64 a1, .int .u64 a0] 24).new #[.int .u64 b3, .int .u64 b2, .int .u64 b1, .int .u64 b0] 24).new #[.int .u64 0, .int .u64 0, .int .u64 0, .int .u64 0] 24).1
    have hE : ∀ w, (binOp .eql 24 (.agg #[.int .u64 b3, .int .u64 b2, .int .u64 b1, .int .u64 b0]) (.agg #[.int .u64 0, .int .u64 0, .int .u64 0, .int .u64 0])).run Try.prog w = .ok (.bool false) w := fun w => eq_word_not hy dig_zero h0 w
    have HX := Lib.hid hx; have HY := Lib.hid hy; have HP := Lib.hid (Nat.pos_of_ne_zero h0)
    have HW := Lib.hid (show x < 256 ^ 32 by rw [← W256_bytes]; exact hx.lt)
    rw [if_neg h0]
    clear hx hy
    go_enter Try.func40, Try.ntmps40
    have kB := H.row (.tail _ (.head _))
    go_wp2_with fail
    clear hE kB
    have HS := Lib.hid H.read3
    refine wp_cut (fun a' W => ∃ (b6 gq : Nat) (va : Value) (r0 r1 r2 r3 : Nat), a' = ⟨#[.agg #[.int .u64 a3, .int .u64 a2, .int .u64 a1, .int .u64 a0], .agg #[.int .u64 b3, .int .u64 b2, .int .u64 b1, .int .u64 b0], .pointer (some ⟨w.heap.size, 0, none⟩), .pointer (some ⟨w.heap.size + 1, 0, none⟩), .pointer (some ⟨w.heap.size + 1 + 1, 0, none⟩), .slice (some ⟨gq, 0, none⟩) 32 32, .pointer (some ⟨b6, 0, none⟩), .agg #[.int .u64 b3, .int .u64 b2, .int .u64 b1, .int .u64 b0], .agg #[.int .u64 0, .int .u64 0, .int .u64 0, .int .u64 0], .bool false, undef, .tuple #[.slice (some ⟨gq, 0, none⟩) 32 32, .agg #[.int .u64 r3, .int .u64 r2, .int .u64 r1, .int .u64 r0]], .agg #[.int .u64 a3, .int .u64 a2, .int .u64 a1, .int .u64 a0], va, .agg #[.int .u64 b3, .int .u64 b2, .int .u64 b1, .int .u64 b0], .tuple #[.slice (some ⟨gq, 0, none⟩) 32 32, .agg #[.int .u64 r3, .int .u64 r2, .int .u64 r1, .int .u64 r0]], .slice (some ⟨gq, 0, none⟩) 32 32, .agg #[.int .u64 r3, .int .u64 r2, .int .u64 r1, .int .u64 r0], undef], []⟩ ∧ BytesRow W (.slice (some ⟨gq, 0, none⟩) 32 32) 32 (byteOf (x / y)) ∧ Dig (x % y) r0 r1 r2 r3 ∧
      Fr w w.heap.size (w.heap.size + 1 + 1 + 1) [(w.heap.size + 1 + 1, #[.int .u64 0, .int .u64 0, .int .u64 0, .int .u64 0], 24), (w.heap.size + 1, #[.int .u64 b3, .int .u64 b2, .int .u64 b1, .int .u64 b0], 24), (w.heap.size, #[.int .u64 a3, .int .u64 a2, .int .u64 a1, .int .u64 a0], 24)] W ∧ W.heap[b6]? = some (.cells #[.int .u64 r3, .int .u64 r2, .int .u64 r1, .int .u64 r0] 24 (0, 0))) ?rest ?tree
    case rest =>
      rintro a' W ⟨b6, gq, va, r0, r1, r2, r3, rfl, hq, hr, F, e6⟩
      clear H HS
      have HR := Lib.hid hr; clear hr
      have c5 := (cells4 e6).1
      clear e6
      have k := F.know (_, _, _) List.mem_cons_self
      obtain ⟨⟨k0, k1, k2, k3⟩, g0, g1, g2, g3⟩ := cells4 k.2
      obtain ⟨d0, d1, d2, d3⟩ := c5
      have K := Lib.hid k; clear k hq
      go_wp2_with fail
      exact bodyPost_ret (results_cell_row Try.results40 _ _ _ _ _ _ _ rfl (heap_set4 K.out.2 _ _ _ _) Try.underlying24 rfl (by kernel_rfl)) rfl
        ⟨_, _, _, _, rfl, HR.out, below_set4 F.below (by omega) _ _ _ _⟩
    intro J K' hJ hK'
    have H0 := H.drew
    refine Drawn.startEx (fun i => i == 9) H (by kernel_rfl) ?_
    clear H
    refine Drawn.take 0 (some 12) (v := ?_) rfl rfl (by kernel_rfl) (by kernel_rfl) (by kernel_rfl) (by kernel_rfl) (by kernel_rfl) rfl (fun _ _ _ h => h) (Or.inl ⟨rfl, ?_⟩) H0 ?_
    rotate_left
    · intro W hW; have hW := HS.out W hW; go_simp; try with_reducible rfl
    simp only [put_list, List.set]
    refine Drawn.take 2 (some 14) (v := ?_) rfl rfl (by kernel_rfl) (by kernel_rfl) (by kernel_rfl) (by kernel_rfl) (by kernel_rfl) rfl (fun _ _ _ h => h) (Or.inl ⟨rfl, ?_⟩) H0 ?_
    rotate_left
    · intro W hW; have hW := HS.out W hW; go_simp; try with_reducible rfl
    simp only [put_list, List.set]
    have H1 := H0
    clear H0
    generalize World.drew _ = W0 at H1 ⊢
    refine Drawn.among [1, 7] (by kernel_rfl) (by decide) ?_
    intro i hi
    simp only [List.mem_cons, List.not_mem_nil, or_false] at hi
    rcases hi with rfl | rfl
    · refine ⟨_, rfl, rfl, fun K hK => ?_⟩
      go_simp
      refine (Digits_b HX.out _).mono ?_
      rintro e w1 ⟨va, rfl, hva, hb⟩
      refine hK _ _ (fun _ _ => H1.call hb) ?_
      replace H1 := H1.call hb
      clear hK K hb
      refine Drawn.among [3, 7] (by kernel_rfl) (by decide) ?_
      intro i hi
      simp only [List.mem_cons, List.not_mem_nil, or_false] at hi
      rcases hi with rfl | rfl
      · refine ⟨_, rfl, rfl, fun K hK => ?_⟩
        go_simp
        refine (Divide_c (Or.inl rfl) HW.out HY.out HP.out _ hva).mono ?_
        rintro e w2 ⟨r0, r1, r2, r3, rfl, hq, hr, hb⟩
        have HR := Lib.hid hr
        refine hK _ _ (fun _ _ => H1.call hb) ?_
        replace H1 := H1.call hb
        clear hK K hb hr
        refine Drawn.take 4 (some 11) (v := ?_) rfl rfl (by kernel_rfl) (by kernel_rfl) (by kernel_rfl) (by kernel_rfl) (by kernel_rfl) rfl (fun _ _ _ h => h) (Or.inl ⟨rfl, ?_⟩) H1 ?_
        rotate_left
        · intro W hW; have hW := HS.out W hW; go_simp; try with_reducible rfl
        simp only [put_list, List.set]
        refine Drawn.take 5 (some 16) (v := ?_) rfl rfl (by kernel_rfl) (by kernel_rfl) (by kernel_rfl) (by kernel_rfl) (by kernel_rfl) rfl (fun _ _ _ h => h) (Or.inl ⟨rfl, ?_⟩) H1 ?_
        rotate_left
        · intro W hW; have hW := HS.out W hW; go_simp; try with_reducible rfl
        simp only [put_list, List.set]
        refine Drawn.take 6 (some 17) (v := ?_) rfl rfl (by kernel_rfl) (by kernel_rfl) (by kernel_rfl) (by kernel_rfl) (by kernel_rfl) rfl (fun _ _ _ h => h) (Or.inl ⟨rfl, ?_⟩) H1 ?_
        rotate_left
        · intro W hW; have hW := HS.out W hW; go_simp; try with_reducible rfl
        simp only [put_list, List.set]
        refine Drawn.only 7 (by kernel_rfl) rfl rfl (fun K hK => ?_)
        go_simp
        refine hK _ _ (fun _ _ => H1.alloc _) ?_
        clear hK K
        have h6 : New4 (w.heap.size + 1 + 1 + 1) (.int .u64 0) (.int .u64 0) (.int .u64 0) (.int .u64 0) 24 _ _ := New4.here _ H1.size
        have hne := Nat.ne_of_lt hq.lt'
        replace hq := hq.call ((Below.refl _ _).alloc (Nat.le_refl _) (.cells #[.int .u64 0, .int .u64 0, .int .u64 0, .int .u64 0] 24))
        replace H1 := H1.alloc (.cells #[.int .u64 0, .int .u64 0, .int .u64 0, .int .u64 0] 24)
        generalize World.alloc _ _ = V1 at H1 h6 hq ⊢
        refine Drawn.take 8 (some 5) (v := ?_) rfl rfl (by kernel_rfl) (by kernel_rfl) (by kernel_rfl) (by kernel_rfl) (by kernel_rfl) rfl (fun _ _ _ h => h) (Or.inl ⟨rfl, ?_⟩) H1 ?_
        rotate_left
        · intro W hW; have hW := HS.out W hW; go_simp; try with_reducible rfl
        simp only [put_list, List.set]
        obtain ⟨⟨c0, c1, c2, c3⟩, g0, g1, g2, g3⟩ := h6.cells
        have hq2 := hq.far hne (.int .u64 (r3 : Nat)) (.int .u64 (r2 : Nat)) (.int .u64 (r1 : Nat)) (.int .u64 (r0 : Nat))
        refine Drawn.only 9 (by kernel_rfl) rfl rfl (fun K hK => ?_)
        go_simp
        refine hK _ _ (fun h => by simp at h) ?_
        exact Drawn.done (by kernel_rfl) (hK' _ _ (Met.intro (hJ _ _ ⟨_, _, va, r0, r1, r2, r3, rfl, hq2, HR.out, H1.set4 h6.ge _ _ _ _, heap_set4 h6.1 _ _ _ _⟩))) _
      · refine ⟨_, rfl, rfl, fun K hK => ?_⟩
        go_simp
        refine hK _ _ (fun _ _ => H1.alloc _) ?_
        clear hK K
        have h6 : New4 (w.heap.size + 1 + 1 + 1) (.int .u64 0) (.int .u64 0) (.int .u64 0) (.int .u64 0) 24 _ _ := New4.here _ H1.size
        replace hva := hva.call ((Below.refl _ _).alloc (Nat.le_refl _) (.cells #[.int .u64 0, .int .u64 0, .int .u64 0, .int .u64 0] 24))
        replace H1 := H1.alloc (.cells #[.int .u64 0, .int .u64 0, .int .u64 0, .int .u64 0] 24)
        generalize World.alloc _ _ = V1 at H1 h6 hva ⊢
        refine Drawn.only 3 (by kernel_rfl) rfl rfl (fun K hK => ?_)
        go_simp
        refine (Divide_c (Or.inl rfl) HW.out HY.out HP.out _ hva).mono ?_
        rintro e w2 ⟨r0, r1, r2, r3, rfl, hq, hr, hb⟩
        have HR := Lib.hid hr
        refine hK _ _ (fun _ _ => H1.call hb) ?_
        have hne := (Nat.ne_of_gt (Nat.lt_succ_of_lt (Nat.lt_succ_of_lt h6.2.1)))
        replace h6 := carry4 hb h6
        replace H1 := H1.call hb
        clear hK K hb hr
        refine Drawn.take 4 (some 11) (v := ?_) rfl rfl (by kernel_rfl) (by kernel_rfl) (by kernel_rfl) (by kernel_rfl) (by kernel_rfl) rfl (fun _ _ _ h => h) (Or.inl ⟨rfl, ?_⟩) H1 ?_
        rotate_left
        · intro W hW; have hW := HS.out W hW; go_simp; try with_reducible rfl
        simp only [put_list, List.set]
        refine Drawn.take 5 (some 16) (v := ?_) rfl rfl (by kernel_rfl) (by kernel_rfl) (by kernel_rfl) (by kernel_rfl) (by kernel_rfl) rfl (fun _ _ _ h => h) (Or.inl ⟨rfl, ?_⟩) H1 ?_
        rotate_left
        · intro W hW; have hW := HS.out W hW; go_simp; try with_reducible rfl
        simp only [put_list, List.set]
        refine Drawn.take 6 (some 17) (v := ?_) rfl rfl (by kernel_rfl) (by kernel_rfl) (by kernel_rfl) (by kernel_rfl) (by kernel_rfl) rfl (fun _ _ _ h => h) (Or.inl ⟨rfl, ?_⟩) H1 ?_
        rotate_left
        · intro W hW; have hW := HS.out W hW; go_simp; try with_reducible rfl
        simp only [put_list, List.set]
        refine Drawn.take 8 (some 5) (v := ?_) rfl rfl (by kernel_rfl) (by kernel_rfl) (by kernel_rfl) (by kernel_rfl) (by kernel_rfl) rfl (fun _ _ _ h => h) (Or.inl ⟨rfl, ?_⟩) H1 ?_
        rotate_left
        · intro W hW; have hW := HS.out W hW; go_simp; try with_reducible rfl
        simp only [put_list, List.set]
        obtain ⟨⟨c0, c1, c2, c3⟩, g0, g1, g2, g3⟩ := h6.cells
        have hq2 := hq.far hne (.int .u64 (r3 : Nat)) (.int .u64 (r2 : Nat)) (.int .u64 (r1 : Nat)) (.int .u64 (r0 : Nat))
        refine Drawn.only 9 (by kernel_rfl) rfl rfl (fun K hK => ?_)
        go_simp
        refine hK _ _ (fun h => by simp at h) ?_
        exact Drawn.done (by kernel_rfl) (hK' _ _ (Met.intro (hJ _ _ ⟨_, _, va, r0, r1, r2, r3, rfl, hq2, HR.out, H1.set4 h6.ge _ _ _ _, heap_set4 h6.1 _ _ _ _⟩))) _
    · refine ⟨_, rfl, rfl, fun K hK => ?_⟩
      go_simp
      refine hK _ _ (fun _ _ => H1.alloc _) ?_
      clear hK K
      have h6 : New4 (w.heap.size + 1 + 1 + 1) (.int .u64 0) (.int .u64 0) (.int .u64 0) (.int .u64 0) 24 _ _ := New4.here _ H1.size
      replace H1 := H1.alloc (.cells #[.int .u64 0, .int .u64 0, .int .u64 0, .int .u64 0] 24)
      generalize World.alloc _ _ = V1 at H1 h6 ⊢
      refine Drawn.only 1 (by kernel_rfl) rfl rfl (fun K hK => ?_)
      go_simp
      refine (Digits_b HX.out _).mono ?_
      rintro e w1 ⟨va, rfl, hva, hb⟩
      refine hK _ _ (fun _ _ => H1.call hb) ?_
      replace h6 := carry4 hb h6
      replace H1 := H1.call hb
      clear hK K hb
      refine Drawn.only 3 (by kernel_rfl) rfl rfl (fun K hK => ?_)
      go_simp
      refine (Divide_c (Or.inl rfl) HW.out HY.out HP.out _ hva).mono ?_
      rintro e w2 ⟨r0, r1, r2, r3, rfl, hq, hr, hb⟩
      have HR := Lib.hid hr
      refine hK _ _ (fun _ _ => H1.call hb) ?_
      have hne := (Nat.ne_of_gt (Nat.lt_succ_of_lt (Nat.lt_succ_of_lt h6.2.1)))
      replace h6 := carry4 hb h6
      replace H1 := H1.call hb
      clear hK K hb hr
      refine Drawn.take 4 (some 11) (v := ?_) rfl rfl (by kernel_rfl) (by kernel_rfl) (by kernel_rfl) (by kernel_rfl) (by kernel_rfl) rfl (fun _ _ _ h => h) (Or.inl ⟨rfl, ?_⟩) H1 ?_
      rotate_left
      · intro W hW; have hW := HS.out W hW; go_simp; try with_reducible rfl
      simp only [put_list, List.set]
      refine Drawn.take 5 (some 16) (v := ?_) rfl rfl (by kernel_rfl) (by kernel_rfl) (by kernel_rfl) (by kernel_rfl) (by kernel_rfl) rfl (fun _ _ _ h => h) (Or.inl ⟨rfl, ?_⟩) H1 ?_
      rotate_left
      · intro W hW; have hW := HS.out W hW; go_simp; try with_reducible rfl
      simp only [put_list, List.set]
      refine Drawn.take 6 (some 17) (v := ?_) rfl rfl (by kernel_rfl) (by kernel_rfl) (by kernel_rfl) (by kernel_rfl) (by kernel_rfl) rfl (fun _ _ _ h => h) (Or.inl ⟨rfl, ?_⟩) H1 ?_
      rotate_left
      · intro W hW; have hW := HS.out W hW; go_simp; try with_reducible rfl
      simp only [put_list, List.set]
      refine Drawn.take 8 (some 5) (v := ?_) rfl rfl (by kernel_rfl) (by kernel_rfl) (by kernel_rfl) (by kernel_rfl) (by kernel_rfl) rfl (fun _ _ _ h => h) (Or.inl ⟨rfl, ?_⟩) H1 ?_
      rotate_left
      · intro W hW; have hW := HS.out W hW; go_simp; try with_reducible rfl
      simp only [put_list, List.set]
      obtain ⟨⟨c0, c1, c2, c3⟩, g0, g1, g2, g3⟩ := h6.cells
      have hq2 := hq.far hne (.int .u64 (r3 : Nat)) (.int .u64 (r2 : Nat)) (.int .u64 (r1 : Nat)) (.int .u64 (r0 : Nat))
      refine Drawn.only 9 (by kernel_rfl) rfl rfl (fun K hK => ?_)
      go_simp
      refine hK _ _ (fun h => by simp at h) ?_
      exact Drawn.done (by kernel_rfl) (hK' _ _ (Met.intro (hJ _ _ ⟨_, _, va, r0, r1, r2, r3, rfl, hq2, HR.out, H1.set4 h6.ge _ _ _ _, heap_set4 h6.1 _ _ _ _⟩))) _
end Go.Proofs.Ythbfhfgmanafpaa
