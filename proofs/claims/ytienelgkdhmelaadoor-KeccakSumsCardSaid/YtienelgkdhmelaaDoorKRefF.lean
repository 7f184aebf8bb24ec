/- The reference's Sum. -/
import Derived.Test.YtienelgkdhmelaaDoorKRefD
import Derived.Test.YtienelgkdhmelaaDoorKRefE
import Derived.Test.YtienelgkdhmelaaDoorKSame
namespace Go.Proofs.YtienelgkdhmelaaDoor
open Go.RowKit

theorem Bs.congr {B : Nat} {v : Value} {n : Nat} {P Q : Nat → Nat} {W : World} (h : Bs B v n P W) (hq : ∀ j, j < n → P j = Q j) : Bs B v n Q W := by
  obtain ⟨g, cap, e, h1, h2, h3, h4, h5⟩ := h
  exact ⟨g, cap, e, h1, h2, h3, fun j hj => by rw [h4 j hj, hq j hj], h5⟩
theorem Bs.set {B g n cap : Nat} {P : Nat → Nat} {W : World} (h : Bs B (.slice (some ⟨g, 0, none⟩) n cap) n P W) {m : Nat} (hm : m < n) (x : Nat) : Bs B (.slice (some ⟨g, 0, none⟩) n cap) n (upd P m x) (W.setCell ⟨g, m, none⟩ (.int .u8 (x : Nat))) := by
  obtain ⟨g', cap', e, h1, h2, h3, h4, h5⟩ := h
  injection e with e1 e2 e3
  injection e1 with e1
  injection e1 with e1
  subst e1 e3
  have hcell : ∀ j, j < n → (W.setCell ⟨g, m, none⟩ (.int .u8 (x : Nat))).cell? ⟨g, j, none⟩ = some (.int .u8 (upd P m x j : Nat)) := by
    intro j hj
    unfold upd
    by_cases e : j = m
    · subst e
      rw [if_pos rfl]
      exact World.cell?_setCell_same _ _ _ (h4 j hj)
    · rw [if_neg e, World.cell?_setCell_other _ _ _ _ (by intro e'; injection e' with e1 e2; omega)]
      exact h4 j hj
  refine ⟨g, cap, rfl, h1, by simpa [World.setCell] using h2, h3, hcell, fun j hj => ⟨?_, by rw [World.frozen?_setCell]; exact (h5 j hj).2⟩⟩
  by_cases e : j < n
  · rw [hcell j e]; rfl
  · rw [World.cell?_setCell_other _ _ _ _ (by intro e'; injection e' with e1 e2; omega)]
    exact (h5 j hj).1
theorem Bs.at {B g n cap : Nat} {P : Nat → Nat} {W : World} (h : Bs B (.slice (some ⟨g, 0, none⟩) n cap) n P W) {j : Nat} (hj : j < n) : W.cell? ⟨g, j, none⟩ = some (.int .u8 (P j : Nat)) ∧ W.frozen? ⟨g, j, none⟩ = false := by
  obtain ⟨g', cap', e, h1, h2, h3, h4, h5⟩ := h
  injection e with e1 e2 e3
  injection e1 with e1
  injection e1 with e1
  subst e1 e3
  exact ⟨h4 j hj, (h5 j (by omega)).2⟩
theorem Bs.ge {B g n cap : Nat} {P : Nat → Nat} {W : World} (h : Bs B (.slice (some ⟨g, 0, none⟩) n cap) n P W) : B ≤ g := by
  obtain ⟨g', cap', e, h1, _⟩ := h
  injection e with e1 e2 e3
  injection e1 with e1
  injection e1 with e1
  subst e1
  exact h1
def lenS : Value → Nat
  | .slice _ n _ => n
  | _ => 0
theorem lenS_slice (p : Option Addr) (n c : Nat) : lenS (.slice p n c) = n := rfl
structure AS (v : World) (g : Nat) (F : Nat → Nat) (W : World) : Prop where
  below : Below v.heap.size v W
  ge : v.heap.size ≤ g
  row : W.heap[g]? = some (.cells (blk .u64 25 F) 26 (0, 0))
theorem AS.drew {v : World} {g : Nat} {F : Nat → Nat} {W : World} (h : AS v g F W) : AS v g F W.drew := ⟨h.below.drew, h.ge, h.row⟩
theorem AS.set {v : World} {g : Nat} {F G : Nat → Nat} {W : World} (h : AS v g F W) (j x : Nat) (hg : ∀ i, i < 25 → upd F j x i = G i) : AS v g G (W.setCell ⟨g, j, none⟩ (.int .u64 (x : Int))) := by
  refine ⟨h.below.setCell h.ge _, h.ge, ?_⟩
  rw [heap_setCell_same _ _ _ _ _ _ h.row, blk_set]
  congr 2
  exact blk_congr _ hg
theorem AS.sl {v : World} {g : Nat} {F : Nat → Nat} {W : World} (h : AS v g F W) : Sl (some ⟨g, 0, none⟩) 25 F W := fun _ => ⟨g, 0, rfl, fun i hi => by rw [Nat.zero_add]; exact (cell_of h.row i).trans (blk_at _ _ hi)⟩
structure OS (w : World) (x o : Nat) (X : Nat → Nat) (k : Nat) (W : World) : Prop where
  below : Below w.heap.size w W
  size : w.heap.size ≤ o
  ne : ¬ x = o
  row : W.heap[x]? = some (.cells (blk .u64 25 X) 26 (0, 0))
  sum : W.heap[o]? = some (.cells (blk .u8 32 (til (outN X) (fun _ => 0) k)) 5 (0, 0))
theorem OS.step {w W : World} {x o : Nat} {X : Nat → Nat} {k : Nat} (s : OS w x o X k W) : OS w x o X (k + 1) (W.setCell ⟨o, k, none⟩ (.int .u8 (outN X k : Nat))) := by
  refine ⟨s.below.setCell s.size _, s.size, s.ne, (heap_setCell_other _ _ _ _ s.ne).trans s.row, ?_⟩
  rw [heap_setCell_same _ _ _ _ _ _ s.sum, blk_set]
  congr 2
  exact blk_congr _ fun j _ => til_step _ _ _ _

set_option maxRecDepth 100000 in
set_option maxHeartbeats 4000000 in
theorem rsum_c {s : ByteArray} (hs : s.size ≤ 1000) (w : World) :
    Calls Tryd.prog 10 #[.string s] w fun e w' => e = .returned (.string (sumN s)) ∧ Below w.heap.size w w' := by
  have hm25 : ∀ w : World, (Instr.makeSlice 25 (.int .i64 25) (.int .i64 25)).run Tryd.prog w = .ok (.slice (some ⟨w.heap.size, 0, none⟩) 25 25) (w.alloc (.cells (blk .u64 25 fun _ => 0) 26)) := fun _ => by kernel_rfl
  have hmk2 : ∀ w : World, (Instr.makeSlice 32 (.int .i64 32) (.int .i64 32)).run Tryd.prog w = .ok (.slice (some ⟨w.heap.size, 0, none⟩) 32 32) (w.alloc (.cells (blk .u8 32 fun _ => 0) 5)) := fun _ => by kernel_rfl
  obtain ⟨V0, W0, hcv, hb0, hb1⟩ : ∃ V0 W0, (convert 9 32 (.string s)).run Tryd.prog w = .ok V0 W0 ∧ Bs w.heap.size V0 s.size (padZ s) W0 ∧ Below w.heap.size w W0 :=
    ⟨_, _, Lib.run_convert_string_bytes (P := Tryd.prog) w 9 32 5 s Tryd.underlying9 Tryd.underlying32 Tryd.underlying5, (bs_text w s).1.congr fun j hj => (if_pos hj).symm, (bs_text w s).2⟩
  have HB0 := Lib.hid (And.intro hb0 hb1)
  have HZ0 := Lib.hid (show (W0.alloc (.cells #[.int .u8 1] 5)).cell? ⟨W0.heap.size, 0, none⟩ = some (.int .u8 (padZ s s.size : Nat)) by
    rw [cell_of (heap_last _ rfl), show padZ s s.size = 1 by unfold padZ; rw [if_neg (by omega), if_pos rfl]]; rfl)
  have HX0 := Lib.hid (show Below W0.heap.size W0 (W0.alloc (.cells #[.int .u8 1] 5)) from (Below.refl _ _).alloc (Nat.le_refl _) _)
  clear hb0 hb1
  go_enter Tryd.func10, Tryd.ntmps10
  go_wp2_with (at_builtin; refine wpList_append_bs rfl _ _ rfl w.heap.size V0 s.size (padZ s) rfl (HB0.out.1.later HX0.out) (Nat.le_trans HB0.out.2.size HX0.out.size) (by omega) W0.heap.size _ rfl HZ0.out ?_; intro v1 W1 h1 h2; have H1 := Lib.hid (And.intro h1 (HB0.out.2.trans ((HX0.out.mono HB0.out.2.size).trans h2))); clear h1 h2)
  clear HB0 HZ0 HX0 hcv
  obtain ⟨g0, cp0, rfl, H1a⟩ : ∃ g cp, v1 = .slice (some ⟨g, 0, none⟩) (s.size + 1) cp ∧ Bs w.heap.size (.slice (some ⟨g, 0, none⟩) (s.size + 1) cp) (s.size + 1) (padZ s) W1 := by
    obtain ⟨g, cp, e, _⟩ := H1.out.1
    exact ⟨g, cp, e, e ▸ H1.out.1⟩
  have H2 := Lib.hid (And.intro H1a H1.out.2)
  clear H1a H1
  obtain ⟨q, hq⟩ : ∃ q, q = s.size / 136 := ⟨_, rfl⟩
  have HQ := Lib.hid hq
  go_loopw [3] (fun v wr => ∃ m g cp : Nat, v = .slice (some ⟨g, 0, none⟩) m cp ∧ s.size < m ∧ m ≤ 136 * q + 136 ∧ Bs w.heap.size v m (padZ s) wr ∧ Below w.heap.size w wr) (fun v _ => 136 * q + 136 - lenS v)
  case atStart => exact ⟨s.size + 1, g0, cp0, by go_num, by omega, by omega, H2.out.1, H2.out.2⟩
  case round =>
    clear H2
    obtain ⟨m, g, cp, rfl, hm1, hm2, hS, hB⟩ := hrel
    have HS := Lib.hid (And.intro hS hB)
    clear hS hB
    obtain ⟨r, hr⟩ : ∃ r, r = m % 136 := ⟨_, rfl⟩
    have r1 : (m : Int).tmod 136 = (r : Int) := by rw [Int.tmod_eq_emod_of_nonneg (by omega)]; omega
    have r2 : (m : Int) % 136 = (r : Int) := by omega
    by_cases hr0 : r = 0
    · subst hr0
      have hmq : m = 136 * q + 136 := by omega
      obtain ⟨M, hM⟩ : ∃ M, M = 136 * q + 135 := ⟨_, rfl⟩
      have hMm : M < m := by omega
      have hM1 : M = m - 1 := by omega
      have c0 := (HS.out.1.at hMm).1
      have e0 := (HS.out.1.at hMm).2
      have x0 : Go.bits .xor .u8 (padZ s M : Int) 128 = (padZ s M ^^^ 128 : Nat) := u8_xor (padZ_lt s M) (y := 128) (by omega)
      have b1 : (0 : Int) ≤ (m : Int) - 1 ∧ (m : Int) - 1 < (m : Int) := by omega
      have b2 : 1 ≤ m := by omega
      have b3 : m ≤ 2000 := by omega
      have HE := Lib.hid (show Bs w.heap.size (.slice (some ⟨g, 0, none⟩) m cp) m (padQ s) (wr.setCell ⟨g, M, none⟩ (.int .u8 (padZ s M ^^^ 128 : Nat))) ∧ Below w.heap.size w (wr.setCell ⟨g, M, none⟩ (.int .u8 (padZ s M ^^^ 128 : Nat))) from by
        refine ⟨(HS.out.1.set hMm _).congr fun j _ => ?_, HS.out.2.setCell (p := ⟨g, M, none⟩) HS.out.1.ge _⟩
        unfold padQ
        rw [← HQ.out, hM])
      have HM := Lib.hid hmq
      clear HS hr hq hmq hM hm1 hm2
      generalize padZ s M ^^^ 128 = z at *
      generalize padZ s M = y at *
      subst hM1
      have H3 := Lib.hid (show AS (wr.setCell ⟨g, m - 1, none⟩ (.int .u8 (z : Nat))) wr.heap.size (abN (padQ s) 0) ((wr.setCell ⟨g, m - 1, none⟩ (.int .u8 (z : Nat))).alloc (.cells (blk .u64 25 fun _ => 0) 26)) from
        ⟨(Below.refl _ _).alloc (Nat.le_refl _) _, by simp [World.setCell], by rw [heap_last _ (by simp [World.setCell])]; rfl⟩)
      go_wp2_with fail
      clear r1 r2 b1 b2 e0 c0 x0 hMm
      generalize wr.setCell ⟨g, m - 1, none⟩ (.int .u8 (z : Nat)) = v1 at *
      generalize wr.heap.size = ga at *
      go_loopw [4, 5] (fun a i wr => ∃ k t ga : Nat, i = .int .i64 t ∧ t = 136 * k ∧ k ≤ q + 1 ∧ a = .slice (some ⟨ga, 0, none⟩) 25 25 ∧ AS v1 ga (abN (padQ s) k) wr) (fun _ i _ => m - (intOf i).toNat)
      case atStart => exact ⟨0, 0, ga, rfl, rfl, by omega, rfl, H3.out⟩
      case round =>
        clear H3
        obtain ⟨k, t, ga, rfl, ht, hk, rfl, hS⟩ := hrel
        have hmq := HM.out
        by_cases hlt : k < q + 1
        · have HS0 := Lib.hid (show AS v1 ga (accX (abN (padQ s) k) (fun j => padQ s (t + j)) 0) wr from ⟨hS.below, hS.ge, by rw [hS.row, blk_congr .u64 fun j _ => (accX_zero _ _ j).symm]⟩)
          have hti : (t : Int) < (m : Int) := by omega
          have htm : t + 136 ≤ m := by omega
          have HN := Lib.hid (show abN (padQ s) (k + 1) = permN (soakF (abN (padQ s) k) (fun j => padQ s (t + j)) 17) from by rw [ht]; rfl)
          have HT := Lib.hid (show t + 136 = 136 * (k + 1) by omega)
          clear hS hmq ht
          have hF := abN_lt (padQ s) k
          generalize abN (padQ s) k = F at *
          have HC := Lib.hid (fun j (hj : j < 136) => (HE.out.1.at (show t + j < m by omega)).1)
          have HP := Lib.hid (fun j => padQ_lt s (t + j))
          have HG := Lib.hid HE.out.1.ge
          obtain ⟨P, hP⟩ : ∃ P : Nat → Nat, (fun j => padQ s (t + j)) = P := ⟨_, rfl⟩
          have HPj := Lib.hid (fun j => show padQ s (t + j) = P j from by rw [← hP])
          rw [hP] at HS0 HN
          clear hP
          go_wp2_with fail
          have hb0 : decide ((t : Int) < (m : Int)) = true := by simpa using hti
          go_loopw [6] (fun i wr => ∃ i' : Nat, i = .int .i64 i' ∧ i' ≤ 136 ∧ AS v1 ga (accX F P i') wr) (fun i _ => 136 - (intOf i).toNat)
          case atStart => exact ⟨0, rfl, by omega, HS0.out⟩
          case round =>
            clear HS0
            obtain ⟨i, rfl, hi, hS⟩ := hrel
            by_cases hli : i < 136
            · have hii : (i : Int) < 136 := by omega
              have c0 := (cell_of hS.row (i / 8)).trans (blk_at _ _ (by omega))
              have e0 := free_of hS.row (i / 8)
              have c1 := (HC.out i hli)
              rw [HPj.out] at c1
              replace c1 := cell_later hS.below c1
              have hPi : P i < 256 := by rw [← HPj.out]; exact HP.out i
              have HA := Lib.hid ((hS.set (i / 8) (accX F P i (i / 8) ^^^ (P i * 2 ^ (8 * (i % 8)) % M64)) (G := accX F P (i + 1)) fun j _ => accX_step F (fun j => by rw [← HPj.out]; exact HP.out j) i j).drew)
              have q1 : (i : Int).tdiv 8 = ((i / 8 : Nat) : Int) := by rw [Int.tdiv_eq_ediv_of_nonneg (by omega)]; omega
              have q2 : (i : Int) / 8 = ((i / 8 : Nat) : Int) := by omega
              have r1 : (i : Int).tmod 8 = ((i % 8 : Nat) : Int) := by rw [Int.tmod_eq_emod_of_nonneg (by omega)]; omega
              have r2 : (i : Int) % 8 = ((i % 8 : Nat) : Int) := by omega
              have hq8 : i / 8 < 17 := by omega
              have hr8 : i % 8 < 8 := by omega
              have x0 := xor64 (accX_lt hF P i (i / 8)) (show P i * 2 ^ (8 * (i % 8)) % M64 < M64 from Nat.mod_lt _ (by decide))
              have x1 := wrap_mul_nat (P i) (8 * (i % 8))
              clear hS
              generalize accX F P i (i / 8) ^^^ (P i * 2 ^ (8 * (i % 8)) % M64) = z at *
              generalize P i * 2 ^ (8 * (i % 8)) % M64 = y at *
              generalize accX F P i (i / 8) = a0 at *
              generalize P i = bb at *
              generalize i / 8 = qq at *
              generalize i % 8 = rr at *
              have bq : (0 : Int) ≤ (qq : Int) ∧ (qq : Int) < 25 := by omega
              have bk : (0 : Int) ≤ (t : Int) + (i : Int) ∧ (t : Int) + (i : Int) < (m : Int) := by omega
              have hn : (8 * (rr : Int)).toNat = 8 * rr := by omega
              have hn2 : IntKind.i64.wrap (8 * (rr : Int)) = 8 * (rr : Int) := IntWalk.i64_in _ (by omega)
              have hn3 : IntKind.i64.wrap (qq : Int) = (qq : Int) := IntWalk.i64_in _ (by omega)
              have hn4 : IntKind.i64.wrap ((t : Int) + (i : Int)) = (t : Int) + (i : Int) := IntWalk.i64_in _ (by omega)
              have hn5 : ((t : Int) + (i : Int)).toNat = t + i := by omega
              go_wp2_with fail
              go_still_tail 21, (by kernel_rfl)
              go_wp2_with fail
              clear hb0 q1 q2 r1 r2 x0 x1 bq bk hn hn2 hn3 hn4 hn5 c0 c1 e0
              go_roundw
              case rel => exact ⟨i + 1, by go_num, by omega, HA.out⟩
              case measure => simp [intOf]; omega
            · obtain rfl : i = 136 := by omega
              have HA := Lib.hid hS
              have HR := Lib.hid (fun W h => rperm_c (f := accX F P 136) (accX_lt hF P 136) (p := some ⟨ga, 0, none⟩) (cap := 25) W h)
              clear hS hli hi
              have HQ2 := Lib.hid (show blk .u64 25 (permN (accX F P 136)) = blk .u64 25 (abN (padQ s) (k + 1)) by rw [HN.out]; exact blk_perm (accX_end F P))
              generalize accX F P 136 = X at *
              go_wp2_with (go_at_call 12; refine (HR.out _ HA.out.sl).mono ?_)
              rintro e w3 ⟨g3, rfl, hg3, hr3, hb3⟩
              have HD := Lib.hid (show AS v1 g3 (abN (padQ s) (k + 1)) w3 from ⟨HA.out.below.trans (hb3.mono HA.out.below.size), Nat.le_trans HA.out.below.size hg3, by rw [hr3, HQ2.out]⟩)
              clear hg3 hr3 hb3 HA HR HQ2 HN
              have hw5 : IntKind.i64.wrap ((t : Int) + 136) = (t : Int) + 136 := IntWalk.i64_in _ (by omega)
              go_wp2_with fail
              clear hb0 hw5
              go_roundw
              case rel => exact ⟨k + 1, t + 136, g3, by go_num, HT.out, by omega, rfl, HD.out⟩
              case measure => simp [intOf]; omega
        · obtain rfl : k = q + 1 := by omega
          have HX := Lib.hid hS
          have hge : ¬ (t : Int) < (m : Int) := by omega
          have HSum := Lib.hid (show abN (padQ s) (q + 1) = endN (byteAt s) s.size by rw [HQ.out]; exact padQ_end s)
          have hV : Below w.heap.size w wr := HE.out.2.trans (hS.below.mono HE.out.2.size)
          have hga := lt_of hS.row
          have HO := Lib.hid (show OS w ga wr.heap.size (abN (padQ s) (q + 1)) 0 (wr.alloc (.cells (blk .u8 32 fun _ => 0) 5)) from
            ⟨hV.alloc hV.size _, hV.size, by omega, by rw [heap_down _ hga]; exact hS.row, by rw [heap_last _ rfl, til_zero]⟩)
          have HXl := Lib.hid (fun j => abN_lt (padQ s) (q + 1) j)
          rw [HSum.out] at HO HXl
          clear hS hV hga hmq ht HX HE HM
          have HS5 := Lib.hid (show sumN s = txt 32 (outN (endN (byteAt s) s.size)) from rfl)
          generalize endN (byteAt s) s.size = X at *
          obtain ⟨v5, rfl⟩ : ∃ v5, v5 = wr := ⟨_, rfl⟩
          go_wp2_with fail
          go_loopw [8] (fun i wr => ∃ k : Nat, i = .int .i64 k ∧ k ≤ 32 ∧ OS w ga v5.heap.size X k wr) (fun i _ => 32 - (intOf i).toNat)
          case atStart => exact ⟨0, rfl, by omega, HO.out⟩
          case round =>
            clear HO
            obtain ⟨k, rfl, hk, hS⟩ := hrel
            by_cases hlt : k < 32
            · have hlti : (k : Int) < 32 := by omega
              have c0 := (cell_of hS.row (k / 8)).trans (blk_at _ _ (by omega))
              have d0 := (cell_of hS.sum k).trans (blk_at _ _ (by omega))
              rw [til_at] at d0
              have e0 := free_of hS.sum k
              have HE := Lib.hid hS.step
              have q1 : (k : Int).tdiv 8 = ((k / 8 : Nat) : Int) := by rw [Int.tdiv_eq_ediv_of_nonneg (by omega)]; omega
              have q2 : (k : Int) / 8 = ((k / 8 : Nat) : Int) := by omega
              have r1 : (k : Int).tmod 8 = ((k % 8 : Nat) : Int) := by rw [Int.tmod_eq_emod_of_nonneg (by omega)]; omega
              have r2 : (k : Int) % 8 = ((k % 8 : Nat) : Int) := by omega
              have hq : k / 8 < 4 := by omega
              have hr : k % 8 < 8 := by omega
              have ho : IntKind.u8.wrap ((X (k / 8) : Int) / 2 ^ (8 * (k % 8))) = (outN X k : Nat) := by
                rw [IntKind.wrap_u8]; unfold outN; simp
              clear hS
              generalize outN X k = o at *
              generalize X (k / 8) = x at *
              generalize k / 8 = qq at *
              generalize k % 8 = rr at *
              have bq : (0 : Int) ≤ (qq : Int) ∧ (qq : Int) < 25 := by omega
              have bk : (0 : Int) ≤ (k : Int) ∧ (k : Int) < 32 := by omega
              have hn : (8 * (rr : Int)).toNat = 8 * rr := by omega
              have hn2 : IntKind.i64.wrap (8 * (rr : Int)) = 8 * (rr : Int) := IntWalk.i64_in _ (by omega)
              have hn3 : IntKind.i64.wrap (qq : Int) = (qq : Int) := IntWalk.i64_in _ (by omega)
              go_wp2_with fail
              go_roundw
              case rel => exact ⟨k + 1, by go_num, by omega, HE.out⟩
              case measure => simp [intOf]; omega
            · obtain rfl : k = 32 := by omega
              have hc := fun cap => conv_blk _ v5.heap.size 32 cap (outN X) (outN_lt X) 5 (by rw [hS.sum, blk_congr .u8 (g := outN X) fun j hj => til_lt hj])
              have HB := Lib.hid hS.below
              rw [← HS5.out] at hc
              clear hS
              go_wp2_with fail
              go_ret
              exact ⟨rfl, HB.out⟩
    · have HZ := Lib.hid (show (wr.alloc (.cells #[.int .u8 0] 5)).cell? ⟨wr.heap.size, 0, none⟩ = some (.int .u8 (padZ s m : Nat)) by
        rw [cell_of (heap_last _ rfl), show padZ s m = 0 by unfold padZ; rw [if_neg (by omega), if_neg (by omega)]]; rfl)
      have HX := Lib.hid (show Below wr.heap.size wr (wr.alloc (.cells #[.int .u8 0] 5)) from (Below.refl _ _).alloc (Nat.le_refl _) _)
      have hri : (r : Int) ≠ 0 := by omega
      have hm3 : m + 1 ≤ 136 * q + 136 := by omega
      clear hr
      go_wp2_with (at_builtin; refine wpList_append_bs rfl _ _ rfl w.heap.size (.slice (some ⟨g, 0, none⟩) m cp) m (padZ s) rfl (HS.out.1.later HX.out) (Nat.le_trans HS.out.2.size HX.out.size) (by omega) wr.heap.size _ rfl HZ.out ?_; intro v1 W1 h1 h2; have H1 := Lib.hid (And.intro h1 (HS.out.2.trans ((HX.out.mono HS.out.2.size).trans h2))); clear h1 h2)
      obtain ⟨g0, cp0, rfl, _⟩ := H1.out.1
      clear r1 r2 hri HZ HX
      go_roundw
      case rel => exact ⟨m + 1, g0, cp0, by go_num, by omega, hm3, H1.out.1, H1.out.2⟩
      case measure => rw [lenS_slice, lenS_slice]; omega
end Go.Proofs.YtienelgkdhmelaaDoor
