/- Contracts of package word: times, Mul. -/
import Derived.Test.YthbfhfgmanafpaaWordR
namespace Go.Proofs.Ythbfhfgmanafpaa
open Go.RowKit
attribute [local go_sem ↓] Go.wp_at_zero Go.wp_at_succ

/-- The number of the first k limbs. -/
def low (y : Nat → Nat) : Nat → Nat
  | 0 => 0
  | k + 1 => low y k + y k * M64 ^ k

theorem low_all {y y0 y1 y2 y3 : Nat} (h : Dig y y0 y1 y2 y3) : low (nth y0 y1 y2 y3) 4 = y := by
  obtain ⟨_, _, _, _, rfl⟩ := h
  simp only [low, nth]
  unfold M64
  omega

theorem low_step {x s r q p k d l : Nat} (h1 : x * l = s + W256 * q) (h2 : s + x * d * M64 ^ k = r + W256 * p) : x * (l + d * M64 ^ k) = r + W256 * (q + p) := by
  rw [Nat.mul_add, h1, Nat.mul_add, ← Nat.mul_assoc]
  omega

/-- What times knows at the head of a round: its two numbers, its result's variable, its sum so far. -/
def TimesS (w : World) (a0 a1 a2 a3 b0 b1 b2 b3 s0 s1 s2 s3 : Nat) (W : World) : Prop :=
  Fr w w.heap.size (w.heap.size + 1 + 1 + 1) [(w.heap.size + 1 + 1, #[.int .u64 0, .int .u64 0, .int .u64 0, .int .u64 0], 45), (w.heap.size + 1, four b0 b1 b2 b3, 45), (w.heap.size, #[.int .u64 a0, .int .u64 a1, .int .u64 a2, .int .u64 a3], 45)] W ∧
    W.heap[w.heap.size + 1 + 1 + 1]? = some (.cells #[.int .u64 s0, .int .u64 s1, .int .u64 s2, .int .u64 s3] 45 (0, 0))

theorem TimesS.cells {w W : World} {a0 a1 a2 a3 b0 b1 b2 b3 s0 s1 s2 s3 k d : Nat} (h : TimesS w a0 a1 a2 a3 b0 b1 b2 b3 s0 s1 s2 s3 W) (hk : k < 4) (hd : nth b0 b1 b2 b3 k = d) :
    (W.cell? ⟨w.heap.size, 0, none⟩ = some (.int .u64 a0) ∧ W.cell? ⟨w.heap.size, 1, none⟩ = some (.int .u64 a1) ∧ W.cell? ⟨w.heap.size, 2, none⟩ = some (.int .u64 a2) ∧ W.cell? ⟨w.heap.size, 3, none⟩ = some (.int .u64 a3)) ∧
    W.cell? ⟨w.heap.size + 1, k, none⟩ = some (.int .u64 d) ∧
    ((W.cell? ⟨w.heap.size + 1 + 1 + 1, 0, none⟩ = some (.int .u64 s0) ∧ W.cell? ⟨w.heap.size + 1 + 1 + 1, 1, none⟩ = some (.int .u64 s1) ∧ W.cell? ⟨w.heap.size + 1 + 1 + 1, 2, none⟩ = some (.int .u64 s2) ∧ W.cell? ⟨w.heap.size + 1 + 1 + 1, 3, none⟩ = some (.int .u64 s3)) ∧
      (W.frozen? ⟨w.heap.size + 1 + 1 + 1, 0, none⟩ = false ∧ W.frozen? ⟨w.heap.size + 1 + 1 + 1, 1, none⟩ = false ∧ W.frozen? ⟨w.heap.size + 1 + 1 + 1, 2, none⟩ = false ∧ W.frozen? ⟨w.heap.size + 1 + 1 + 1, 3, none⟩ = false)) :=
  ⟨(cells4 (h.1.know (w.heap.size, _, 45) (by simp)).2).1, (cell_of (h.1.know (w.heap.size + 1, four b0 b1 b2 b3, 45) (by simp)).2 k).trans ((four_at _ _ _ _ _ hk).trans (by rw [hd])), cells4 h.2⟩

theorem TimesS.call {w W w1 : World} {a0 a1 a2 a3 b0 b1 b2 b3 s0 s1 s2 s3 : Nat} (h : TimesS w a0 a1 a2 a3 b0 b1 b2 b3 s0 s1 s2 s3 W) (hb : Below W.heap.size W w1) : TimesS w a0 a1 a2 a3 b0 b1 b2 b3 s0 s1 s2 s3 w1 :=
  ⟨h.1.call hb, (hb.block _ (lt_of h.2)).trans h.2⟩
theorem TimesS.set {w W : World} {a0 a1 a2 a3 b0 b1 b2 b3 s0 s1 s2 s3 : Nat} (h : TimesS w a0 a1 a2 a3 b0 b1 b2 b3 s0 s1 s2 s3 W) (r0 r1 r2 r3 : Nat) :
    TimesS w a0 a1 a2 a3 b0 b1 b2 b3 r0 r1 r2 r3 ((((W.setCell ⟨w.heap.size + 1 + 1 + 1, 0, none⟩ (.int .u64 r0)).setCell ⟨w.heap.size + 1 + 1 + 1, 1, none⟩ (.int .u64 r1)).setCell ⟨w.heap.size + 1 + 1 + 1, 2, none⟩ (.int .u64 r2)).setCell ⟨w.heap.size + 1 + 1 + 1, 3, none⟩ (.int .u64 r3)) :=
  ⟨h.1.set4 (Nat.le_refl _) _ _ _ _, heap_set4 h.2 _ _ _ _⟩

def TimesRel (w : World) (x a0 a1 a2 a3 b0 b1 b2 b3 k : Nat) (W : World) : Prop :=
  ∃ s s0 s1 s2 s3 q, Dig s s0 s1 s2 s3 ∧ x * low (nth b0 b1 b2 b3) k = s + W256 * q ∧ TimesS w a0 a1 a2 a3 b0 b1 b2 b3 s0 s1 s2 s3 W

/-- A call that hands back limbs. -/
def RetL (q : Nat → Prop) (w : World) (e : Ending) (w' : World) : Prop :=
  ∃ s s0 s1 s2 s3 : Nat, e = .returned (.agg #[.int .u64 s0, .int .u64 s1, .int .u64 s2, .int .u64 s3]) ∧ Dig s s0 s1 s2 s3 ∧ q s ∧ Below w.heap.size w w'

set_option maxRecDepth 100000 in
set_option maxHeartbeats 2000000 in
theorem times_c {x y a0 a1 a2 a3 b0 b1 b2 b3 : Nat} (hx : Dig x a0 a1 a2 a3) (hy : Dig y b0 b1 b2 b3) (w : World) :
    Calls Try.prog 61 #[.agg #[.int .u64 a0, .int .u64 a1, .int .u64 a2, .int .u64 a3], .agg #[.int .u64 b0, .int .u64 b1, .int .u64 b2, .int .u64 b3]] w (RetL (fun s => ∃ q, x * y = s + W256 * q) w) := by
  have H := ((((Fx.start w).new #[.int .u64 a0, .int .u64 a1, .int .u64 a2, .int .u64 a3] 45).new #[.int .u64 b0, .int .u64 b1, .int .u64 b2, .int .u64 b3] 45).new #[.int .u64 0, .int .u64 0, .int .u64 0, .int .u64 0] 45)
  have H0 := Lib.hid (show TimesRel w x a0 a1 a2 a3 b0 b1 b2 b3 0 _ from ⟨0, 0, 0, 0, 0, 0, ⟨by decide, by decide, by decide, by decide, rfl⟩, by simp [low], H.1.alloc (.cells #[.int .u64 (0 : Nat), .int .u64 (0 : Nat), .int .u64 (0 : Nat), .int .u64 (0 : Nat)] 45), by rw [← H.2]; exact heap_alloc_new _ _⟩)
  clear H
  have HX := Lib.hid hx; have HY := Lib.hid hy; clear hx hy
  go_enter Try.func61, Try.ntmps61
  go_wp2_with fail
  go_loopw [7] (fun i wr => ∃ k : Nat, i = .int .i64 k ∧ k ≤ 4 ∧ TimesRel w x a0 a1 a2 a3 b0 b1 b2 b3 k wr) (fun i w => 4 - (intOf i).toNat)
  case atStart => exact ⟨0, rfl, by omega, H0.out⟩
  case round =>
    clear H0
    obtain ⟨k, rfl, hk4, s, s0, s1, s2, s3, q, hs, hq, hS⟩ := hrel
    by_cases hk : k < 4
    · have hk0 : (0 : Int) ≤ (k : Int) := by omega
      have hk1 : (k : Int) < 4 := by omega
      have C := Lib.hid (fun W => plusRow_c hs HX.out (HY.out.nth k) hk W)
      have HS := Lib.hid (fun W (hW : TimesS w a0 a1 a2 a3 b0 b1 b2 b3 s0 s1 s2 s3 W) => TimesS.cells hW hk rfl)
      have HQ := Lib.hid (fun (r p : Nat) (h2 : s + x * nth b0 b1 b2 b3 k * M64 ^ k = r + W256 * p) => low_step hq h2)
      have H0 : TimesS w a0 a1 a2 a3 b0 b1 b2 b3 s0 s1 s2 s3 wr.drew := ⟨hS.1.drew, hS.2⟩
      have HL := Lib.hid (show low (nth b0 b1 b2 b3) (k + 1) = low (nth b0 b1 b2 b3) k + nth b0 b1 b2 b3 k * M64 ^ k from rfl)
      clear hs hq hS
      generalize nth b0 b1 b2 b3 k = d at *
      go_wp2_with fail
      refine Drawn.start (TimesS w a0 a1 a2 a3 b0 b1 b2 b3 s0 s1 s2 s3) (fun i => i == 10) (by kernel_rfl) ?_
      refine Drawn.take 0 (some 11) (v := ?_) rfl rfl (by kernel_rfl) (by kernel_rfl) (by kernel_rfl) (by kernel_rfl) (by kernel_rfl) rfl (fun _ _ _ h => h) (Or.inl ⟨rfl, ?_⟩) H0 ?_
      rotate_left
      · intro W hW; have hW := HS.out W hW; go_simp; try with_reducible rfl
      simp only [put_list, List.set]
      refine Drawn.take 1 (some 12) (v := ?_) rfl rfl (by kernel_rfl) (by kernel_rfl) (by kernel_rfl) (by kernel_rfl) (by kernel_rfl) rfl (fun _ _ _ h => h) (Or.inl ⟨rfl, ?_⟩) H0 ?_
      rotate_left
      · intro W hW; have hW := HS.out W hW; go_simp; try with_reducible rfl
      simp only [put_list, List.set]
      refine Drawn.take 2 (some 13) (v := ?_) rfl rfl (by kernel_rfl) (by kernel_rfl) (by kernel_rfl) (by kernel_rfl) (by kernel_rfl) rfl (fun _ _ _ h => h) (Or.inl ⟨rfl, ?_⟩) H0 ?_
      rotate_left
      · intro W hW; have hW := HS.out W hW; go_simp; try with_reducible rfl
      simp only [put_list, List.set]
      refine Drawn.take 3 (some 14) (v := ?_) rfl rfl (by kernel_rfl) (by kernel_rfl) (by kernel_rfl) (by kernel_rfl) (by kernel_rfl) rfl (fun _ _ _ h => h) (Or.inl ⟨rfl, ?_⟩) H0 ?_
      rotate_left
      · intro W hW; have hW := HS.out W hW; go_simp; try with_reducible rfl
      simp only [put_list, List.set]
      refine Drawn.take 4 (some 15) (v := ?_) rfl rfl (by kernel_rfl) (by kernel_rfl) (by kernel_rfl) (by kernel_rfl) (by kernel_rfl) rfl (fun _ _ _ h => h) (Or.inl ⟨rfl, ?_⟩) H0 ?_
      rotate_left
      · intro W hW; have hW := HS.out W hW; go_simp; try with_reducible rfl
      simp only [put_list, List.set]
      refine Drawn.take 5 (some 16) (v := ?_) rfl rfl (by kernel_rfl) (by kernel_rfl) (by kernel_rfl) (by kernel_rfl) (by kernel_rfl) rfl (fun _ _ _ h => h) (Or.inl ⟨rfl, ?_⟩) H0 ?_
      rotate_left
      · intro W hW; have hW := HS.out W hW; go_simp; try with_reducible rfl
      simp only [put_list, List.set]
      refine Drawn.only 6 (by kernel_rfl) rfl rfl (fun K hK => ?_)
      go_simp
      refine (C.out _).mono ?_
      rintro e w1 ⟨r, r0, r1, r2, r3, c, rfl, hr, ⟨hc, p, hp, hl0⟩, hb1⟩
      have HP := Lib.hid hp; have HR := Lib.hid hr; clear hp hr hl0
      refine hK _ _ (fun _ _ => H0.call hb1) ?_
      replace H0 := H0.call hb1
      clear hK K
      refine Drawn.take 7 (some 10) (v := ?_) rfl rfl (by kernel_rfl) (by kernel_rfl) (by kernel_rfl) (by kernel_rfl) (by kernel_rfl) rfl (fun _ _ _ h => h) (Or.inl ⟨rfl, ?_⟩) H0 ?_
      rotate_left
      · intro W hW; have hW := HS.out W hW; go_simp; try with_reducible rfl
      simp only [put_list, List.set]
      refine Drawn.take 8 (some 18) (v := ?_) rfl rfl (by kernel_rfl) (by kernel_rfl) (by kernel_rfl) (by kernel_rfl) (by kernel_rfl) rfl (fun _ _ _ h => h) (Or.inl ⟨rfl, ?_⟩) H0 ?_
      rotate_left
      · intro W hW; have hW := HS.out W hW; go_simp; try with_reducible rfl
      simp only [put_list, List.set]
      refine Drawn.free 9 (some 19) (v := ?_) rfl rfl (by kernel_rfl) (by kernel_rfl) (by kernel_rfl) rfl (fun _ _ _ h => h) (Or.inl ⟨rfl, ?_⟩) (fun _ => H0) ?_
      rotate_left
      · intro W; go_simp; try with_reducible rfl
      simp only [put_list, List.set]
      have hc0 := HS.out _ H0
      refine Drawn.only 10 (by kernel_rfl) rfl rfl (fun K hK => ?_)
      go_simp
      refine hK _ _ (fun h => by simp at h) ?_
      clear hK K hc0
      refine Drawn.done (by kernel_rfl) ?_ _
      have HE := Lib.hid (show TimesRel w x a0 a1 a2 a3 b0 b1 b2 b3 (k + 1) _ from ⟨r, r0, r1, r2, r3, _, HR.out, by rw [HL.out]; exact HQ.out _ _ HP.out, H0.set r0 r1 r2 r3⟩)
      clear H0
      go_wp2_with fail
      go_roundw
      case rel => exact ⟨k + 1, by go_num, by omega, HE.out⟩
      case measure => simp [intOf]; omega
    · have h4 : k = 4 := by omega
      subst h4
      rw [low_all HY.out] at hq
      have k0 := hS.1.know (w.heap.size + 1 + 1, #[.int .u64 0, .int .u64 0, .int .u64 0, .int .u64 0], 45) (by simp)
      obtain ⟨⟨c0, c1, c2, c3⟩, f0, f1, f2, f3⟩ := cells4 k0.2
      obtain ⟨⟨d0, d1, d2, d3⟩, _, _, _, _⟩ := cells4 hS.2
      have K0 := Lib.hid k0; clear k0
      have HQ := Lib.hid hq; clear hq
      have HS := Lib.hid hS; clear hS
      have HD := Lib.hid hs; clear hs
      go_wp2
      exact bodyPost_ret (results_cell_row Try.results61 _ _ _ _ _ _ _ rfl (heap_set4 K0.out.2 _ _ _ _) Try.underlying45 rfl (by kernel_rfl)) rfl
        ⟨s, s0, s1, s2, s3, rfl, HD.out, ⟨q, HQ.out⟩, below_set4 HS.out.1.below (by omega) _ _ _ _⟩


set_option maxRecDepth 100000 in
set_option maxHeartbeats 2000000 in
theorem Mul_c {x y a3 a2 a1 a0 b3 b2 b1 b0 : Nat} (hx : Dig x a0 a1 a2 a3) (hy : Dig y b0 b1 b2 b3) (w : World) :
    Calls Try.prog 25 #[.agg #[.int .u64 a3, .int .u64 a2, .int .u64 a1, .int .u64 a0], .agg #[.int .u64 b3, .int .u64 b2, .int .u64 b1, .int .u64 b0]] w
      (RetW (fun s => ∃ q, x * y = s + W256 * q) w) := by
  have H := ((((Fx.start w).new #[.int .u64 a3, .int .u64 a2, .int .u64 a1, .int .u64 a0] 24).new #[.int .u64 b3, .int .u64 b2, .int .u64 b1, .int .u64 b0] 24).new #[.int .u64 0, .int .u64 0, .int .u64 0, .int .u64 0] 24)
  have H0 := H.1.drew
  clear H
  have HS := Lib.hid (fun W (hW : Fr w w.heap.size (w.heap.size + 1 + 1 + 1) [(w.heap.size + 1 + 1, #[.int .u64 0, .int .u64 0, .int .u64 0, .int .u64 0], 24), (w.heap.size + 1, #[.int .u64 b3, .int .u64 b2, .int .u64 b1, .int .u64 b0], 24), (w.heap.size, #[.int .u64 a3, .int .u64 a2, .int .u64 a1, .int .u64 a0], 24)] W) => hW.s2)
  have HX := Lib.hid hx; have HY := Lib.hid hy; clear hx hy
  go_enter Try.func25, Try.ntmps25
  go_wp2_with fail
  refine Drawn.start (Fr w w.heap.size (w.heap.size + 1 + 1 + 1) [(w.heap.size + 1 + 1, #[.int .u64 0, .int .u64 0, .int .u64 0, .int .u64 0], 24), (w.heap.size + 1, #[.int .u64 b3, .int .u64 b2, .int .u64 b1, .int .u64 b0], 24), (w.heap.size, #[.int .u64 a3, .int .u64 a2, .int .u64 a1, .int .u64 a0], 24)]) (fun i => i == 6) (by kernel_rfl) ?_
  refine Drawn.take 0 (some 5) (v := ?_) rfl rfl (by kernel_rfl) (by kernel_rfl) (by kernel_rfl) (by kernel_rfl) (by kernel_rfl) rfl (fun _ _ _ h => h) (Or.inl ⟨rfl, ?_⟩) H0 ?_
  rotate_left
  · intro W hW; have hW := HS.out W hW; go_simp; try with_reducible rfl
  simp only [put_list, List.set]
  refine Drawn.take 2 (some 7) (v := ?_) rfl rfl (by kernel_rfl) (by kernel_rfl) (by kernel_rfl) (by kernel_rfl) (by kernel_rfl) rfl (fun _ _ _ h => h) (Or.inl ⟨rfl, ?_⟩) H0 ?_
  rotate_left
  · intro W hW; have hW := HS.out W hW; go_simp; try with_reducible rfl
  simp only [put_list, List.set]
  refine Drawn.only 1 (by kernel_rfl) rfl rfl (fun K hK => ?_)
  go_simp
  refine (split_any _ _ _ _ _).mono ?_
  rintro e w1 ⟨rfl, hb1⟩
  refine hK _ _ (fun _ _ => H0.call hb1) ?_
  replace H0 := H0.call hb1
  clear hK K hb1
  refine Drawn.only 3 (by kernel_rfl) rfl rfl (fun K hK => ?_)
  go_simp
  refine (split_any _ _ _ _ _).mono ?_
  rintro e w2 ⟨rfl, hb2⟩
  refine hK _ _ (fun _ _ => H0.call hb2) ?_
  replace H0 := H0.call hb2
  clear hK K hb2
  refine Drawn.only 4 (by kernel_rfl) rfl rfl (fun K hK => ?_)
  go_simp
  refine (times_c HX.out HY.out _).mono ?_
  rintro e w3 ⟨s, s0, s1, s2, s3, rfl, hs, hq, hb3⟩
  refine hK _ _ (fun _ _ => H0.call hb3) ?_
  replace H0 := H0.call hb3
  have HD := Lib.hid hs; have HQ := Lib.hid hq; clear hs hq
  clear hK K hb3
  refine Drawn.only 5 (by kernel_rfl) rfl rfl (fun K hK => ?_)
  go_simp
  refine (join_any _ _ _ _ _).mono ?_
  rintro e w4 ⟨rfl, hb4⟩
  refine hK _ _ (fun _ _ => H0.call hb4) ?_
  replace H0 := H0.call hb4
  clear hK K hb4
  have k := H0.know (w.heap.size + 1 + 1, #[.int .u64 0, .int .u64 0, .int .u64 0, .int .u64 0], 24) (by simp)
  obtain ⟨⟨c0, c1, c2, c3⟩, f0, f1, f2, f3⟩ := cells4 k.2
  have K0 := Lib.hid k; clear k
  refine Drawn.only 6 (by kernel_rfl) rfl rfl (fun K hK => ?_)
  go_simp
  refine hK _ _ (fun h => by simp at h) ?_
  clear hK K
  refine Drawn.done (by kernel_rfl) ?_ _
  go_wp2
  exact bodyPost_ret (results_cell_row Try.results25 _ _ _ _ _ _ _ rfl (heap_set4 K0.out.2 _ _ _ _) Try.underlying24 rfl (by kernel_rfl)) rfl
    ⟨s, s3, s2, s1, s0, rfl, HD.out, HQ.out, below_set4 H0.below (by omega) _ _ _ _⟩

end Go.Proofs.Ythbfhfgmanafpaa
