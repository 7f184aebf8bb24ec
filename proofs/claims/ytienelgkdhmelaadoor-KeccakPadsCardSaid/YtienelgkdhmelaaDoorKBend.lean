/- The contract of (*lanes).bend. -/
import Derived.Test.YtienelgkdhmelaaDoorKMix
namespace Go.Proofs.YtienelgkdhmelaaDoor
open Go.RowKit

/-- c where b has no bit. -/
def annN (c b : Nat) : Nat := (M64 - 1 - b) &&& c
theorem ann64 {c b : Nat} (hc : c < M64) (hb : b < M64) : Go.bits .andNot .u64 (c : Int) (b : Int) = (annN c b : Nat) := by
  unfold M64 at hc hb
  have h1 : (BitVec.ofInt 64 (c : Int)).toNat = c := by
    rw [BitVec.ofInt_natCast, BitVec.toNat_ofNat]; exact Nat.mod_eq_of_lt (by omega)
  have h2 : (BitVec.ofInt 64 (b : Int)).toNat = b := by
    rw [BitVec.ofInt_natCast, BitVec.toNat_ofNat]; exact Nat.mod_eq_of_lt (by omega)
  have hx : c &&& (18446744073709551615 - b) < 2 ^ 64 := Nat.and_lt_two_pow _ (by omega)
  show IntKind.u64.wrap ((BitVec.ofInt 64 (c : Int) &&& ~~~ BitVec.ofInt 64 (b : Int)).toNat : Int) = _
  rw [BitVec.toNat_and, BitVec.toNat_not, h1, h2, IntKind.wrap_u64, annN, Nat.and_comm, show M64 - 1 - b = 18446744073709551615 - b by unfold M64; omega]
  rw [Nat.and_comm] at hx
  rw [show (2 ^ 64 - 1 - b : Nat) = 18446744073709551615 - b by omega]
  omega
theorem annN_lt {c : Nat} (b : Nat) (hc : c < M64) : annN c b < M64 := by rw [M64_pow] at *; exact Nat.and_lt_two_pow _ hc
def bndN (f : Nat → Nat) (i : Nat) : Nat := f i ^^^ annN (f ((i % 5 + 2) % 5 + 5 * (i / 5))) (f ((i % 5 + 1) % 5 + 5 * (i / 5)))
def bndF (f : Nat → Nat) (k i : Nat) : Nat := if i < 5 * k then bndN f i else f i
theorem bndN_lt {f : Nat → Nat} (hf : ∀ i, f i < M64) (i : Nat) : bndN f i < M64 := xor_lt (hf i) (annN_lt _ (hf _))
def chi (a c b : Nat) : Nat := a ^^^ annN c b
theorem bndN_0 (f : Nat → Nat) (k : Nat) : bndN f (5 * k) = chi (f (5 * k)) (f (5 * k + 2)) (f (5 * k + 1)) := by
  unfold bndN chi; rw [show (5 * k % 5 + 2) % 5 + 5 * (5 * k / 5) = 5 * k + 2 by omega, show (5 * k % 5 + 1) % 5 + 5 * (5 * k / 5) = 5 * k + 1 by omega]
theorem bndN_1 (f : Nat → Nat) (k : Nat) : bndN f (5 * k + 1) = chi (f (5 * k + 1)) (f (5 * k + 3)) (f (5 * k + 2)) := by
  unfold bndN chi; rw [show ((5 * k + 1) % 5 + 2) % 5 + 5 * ((5 * k + 1) / 5) = 5 * k + 3 by omega, show ((5 * k + 1) % 5 + 1) % 5 + 5 * ((5 * k + 1) / 5) = 5 * k + 2 by omega]
theorem bndN_2 (f : Nat → Nat) (k : Nat) : bndN f (5 * k + 2) = chi (f (5 * k + 2)) (f (5 * k + 4)) (f (5 * k + 3)) := by
  unfold bndN chi; rw [show ((5 * k + 2) % 5 + 2) % 5 + 5 * ((5 * k + 2) / 5) = 5 * k + 4 by omega, show ((5 * k + 2) % 5 + 1) % 5 + 5 * ((5 * k + 2) / 5) = 5 * k + 3 by omega]
theorem bndN_3 (f : Nat → Nat) (k : Nat) : bndN f (5 * k + 3) = chi (f (5 * k + 3)) (f (5 * k)) (f (5 * k + 4)) := by
  unfold bndN chi; rw [show ((5 * k + 3) % 5 + 2) % 5 + 5 * ((5 * k + 3) / 5) = 5 * k by omega, show ((5 * k + 3) % 5 + 1) % 5 + 5 * ((5 * k + 3) / 5) = 5 * k + 4 by omega]
theorem bndN_4 (f : Nat → Nat) (k : Nat) : bndN f (5 * k + 4) = chi (f (5 * k + 4)) (f (5 * k + 1)) (f (5 * k)) := by
  unfold bndN chi; rw [show ((5 * k + 4) % 5 + 2) % 5 + 5 * ((5 * k + 4) / 5) = 5 * k + 1 by omega, show ((5 * k + 4) % 5 + 1) % 5 + 5 * ((5 * k + 4) / 5) = 5 * k by omega]
theorem bndF_step (f : Nat → Nat) (k j : Nat) :
    upd (upd (upd (upd (upd (bndF f k) (5 * k) (bndN f (5 * k))) (5 * k + 1) (bndN f (5 * k + 1))) (5 * k + 2) (bndN f (5 * k + 2))) (5 * k + 3) (bndN f (5 * k + 3))) (5 * k + 4) (bndN f (5 * k + 4)) j = bndF f (k + 1) j := by
  unfold upd bndF
  have e0 : j = 5 * k ∨ j = 5 * k + 1 ∨ j = 5 * k + 2 ∨ j = 5 * k + 3 ∨ j = 5 * k + 4 ∨ j < 5 * k ∨ 5 * k + 5 ≤ j := by omega
  rcases e0 with rfl | rfl | rfl | rfl | rfl | e0 | e0
  · rw [if_neg (by omega), if_neg (by omega), if_neg (by omega), if_neg (by omega), if_pos rfl, if_pos (by omega)]
  · rw [if_neg (by omega), if_neg (by omega), if_neg (by omega), if_pos rfl, if_pos (by omega)]
  · rw [if_neg (by omega), if_neg (by omega), if_pos rfl, if_pos (by omega)]
  · rw [if_neg (by omega), if_pos rfl, if_pos (by omega)]
  · rw [if_pos rfl, if_pos (by omega)]
  · rw [if_neg (by omega), if_neg (by omega), if_neg (by omega), if_neg (by omega), if_neg (by omega), if_pos e0, if_pos (by omega)]
  · rw [if_neg (by omega), if_neg (by omega), if_neg (by omega), if_neg (by omega), if_neg (by omega), if_neg (by omega), if_neg (by omega)]
def BndS (w : World) (B : Nat) (f : Nat → Nat) (k : Nat) (W : World) : Prop := Only (· = B) w.heap.size w W ∧ Lan B (bndF f k) W
theorem Only.set {B n : Nat} {a W : World} (h : Only (· = B) n a W) (j : Nat) (u : Value) : Only (· = B) n a (W.setCell ⟨B, j, none⟩ u) := h.setCell (.inr rfl) _
theorem BndS.step {w W : World} {B : Nat} {f : Nat → Nat} {k : Nat} (h : BndS w B f k W) :
    BndS w B f (k + 1) (((((W.setCell ⟨B, 5 * k, none⟩ (.int .u64 (bndN f (5 * k) : Nat))).setCell ⟨B, 5 * k + 1, none⟩ (.int .u64 (bndN f (5 * k + 1) : Nat))).setCell ⟨B, 5 * k + 2, none⟩ (.int .u64 (bndN f (5 * k + 2) : Nat))).setCell ⟨B, 5 * k + 3, none⟩ (.int .u64 (bndN f (5 * k + 3) : Nat))).setCell ⟨B, 5 * k + 4, none⟩ (.int .u64 (bndN f (5 * k + 4) : Nat))) :=
  ⟨((((h.1.set _ _).set _ _).set _ _).set _ _).set _ _, (((((h.2.set _ _).set _ _).set _ _).set _ _).set _ _).congr fun j _ => bndF_step f k j⟩
/-- The row's cells. -/
def Row5 (B k : Nat) (f : Nat → Nat) (W : World) : Prop :=
  (W.cell? ⟨B, 5 * k, none⟩ = some (.int .u64 (f (5 * k) : Nat)) ∧ W.cell? ⟨B, 5 * k + 1, none⟩ = some (.int .u64 (f (5 * k + 1) : Nat)) ∧ W.cell? ⟨B, 5 * k + 2, none⟩ = some (.int .u64 (f (5 * k + 2) : Nat)) ∧
    W.cell? ⟨B, 5 * k + 3, none⟩ = some (.int .u64 (f (5 * k + 3) : Nat)) ∧ W.cell? ⟨B, 5 * k + 4, none⟩ = some (.int .u64 (f (5 * k + 4) : Nat))) ∧
  (W.frozen? ⟨B, 5 * k, none⟩ = false ∧ W.frozen? ⟨B, 5 * k + 1, none⟩ = false ∧ W.frozen? ⟨B, 5 * k + 2, none⟩ = false ∧ W.frozen? ⟨B, 5 * k + 3, none⟩ = false ∧ W.frozen? ⟨B, 5 * k + 4, none⟩ = false)
theorem Lan.row5 {B : Nat} {f : Nat → Nat} {k : Nat} {W : World} (h : Lan B (bndF f k) W) (hk : k < 5) : Row5 B k f W := by
  have g : ∀ j, 5 * k ≤ j → j < 25 → W.cell? ⟨B, j, none⟩ = some (.int .u64 (f j : Nat)) := fun j h1 h2 => by
    rw [cell_of h j, blk_at _ _ h2, bndF, if_neg (by omega)]
  exact ⟨⟨g _ (by omega) (by omega), g _ (by omega) (by omega), g _ (by omega) (by omega), g _ (by omega) (by omega), g _ (by omega) (by omega)⟩, free_of h _, free_of h _, free_of h _, free_of h _, free_of h _⟩
theorem chi64 {a c b : Nat} (ha : a < M64) (hc : c < M64) : Go.bits .xor .u64 (a : Int) (annN c b : Nat) = (chi a c b : Nat) := xor64 ha (annN_lt b hc)

set_option maxRecDepth 100000 in
set_option maxHeartbeats 4000000 in
theorem bend_c {B : Nat} {f : Nat → Nat} (hf : ∀ i, f i < M64) (w : World) (hB : Lan B f w) :
    Calls Tryd.prog 24 #[.pointer (some ⟨B, 0, none⟩)] w fun e w' => e = .returned (.tuple #[]) ∧ LanTo B w (bndN f) w' := by
  have H0 := Lib.hid (show BndS w B f 0 w from ⟨Only.refl _ _ _, hB.congr fun _ _ => (if_neg (by omega)).symm⟩)
  clear hB
  go_enter Tryd.func24, Tryd.ntmps24
  go_wp2_with fail
  go_loopw [9] (fun i wr => ∃ k : Nat, i = .int .i64 k ∧ k ≤ 5 ∧ BndS w B f k wr) (fun i _ => 5 - (intOf i).toNat)
  case atStart => exact ⟨0, rfl, by omega, H0.out⟩
  case round =>
    clear H0
    obtain ⟨k, rfl, hk, hS⟩ := hrel
    by_cases hlt : k < 5
    · have HE := Lib.hid (fun n => BndS.step (W := wr.drewN n) (k := k) (f := f) (B := B) (w := w) ⟨Only.drewN hS.1 n, hS.2⟩)
      rw [bndN_0, bndN_1, bndN_2, bndN_3, bndN_4] at HE
      obtain ⟨⟨c0, c1, c2, c3, c4⟩, e0, e1, e2, e3, e4⟩ := Lan.row5 hS.2 hlt
      have a0 := ann64 (hf (5 * k + 2)) (hf (5 * k + 1))
      have a1 := ann64 (hf (5 * k + 3)) (hf (5 * k + 2))
      have a2 := ann64 (hf (5 * k + 4)) (hf (5 * k + 3))
      have a3 := ann64 (hf (5 * k)) (hf (5 * k + 4))
      have a4 := ann64 (hf (5 * k + 1)) (hf (5 * k))
      have x0 := chi64 (b := f (5 * k + 1)) (hf (5 * k)) (hf (5 * k + 2))
      have x1 := chi64 (b := f (5 * k + 2)) (hf (5 * k + 1)) (hf (5 * k + 3))
      have x2 := chi64 (b := f (5 * k + 3)) (hf (5 * k + 2)) (hf (5 * k + 4))
      have x3 := chi64 (b := f (5 * k + 4)) (hf (5 * k + 3)) (hf (5 * k))
      have x4 := chi64 (b := f (5 * k)) (hf (5 * k + 4)) (hf (5 * k + 1))
      have hlti : (k : Int) < 5 := by omega
      have hw : IntKind.i64.wrap (5 * (k : Int)) = ((5 * k : Nat) : Int) := by rw [IntWalk.i64_in _ (by omega)]; omega
      have hw2 : (5 * (k : Int)) = ((5 * k : Nat) : Int) := by omega
      have hp : 5 * k ≤ 20 := by omega
      have HM := Lib.hid (show 5 * (k + 1) = 5 * k + 5 by omega)
      clear hS
      generalize f (5 * k + 1) = b1 at *
      generalize f (5 * k + 2) = b2 at *
      generalize f (5 * k + 3) = b3 at *
      generalize f (5 * k + 4) = b4 at *
      generalize f (5 * k) = b0 at *
      generalize chi b0 b2 b1 = z0 at *
      generalize chi b1 b3 b2 = z1 at *
      generalize chi b2 b4 b3 = z2 at *
      generalize chi b3 b0 b4 = z3 at *
      generalize chi b4 b1 b0 = z4 at *
      generalize annN b2 b1 = y0 at *
      generalize annN b3 b2 = y1 at *
      generalize annN b4 b3 = y2 at *
      generalize annN b0 b4 = y3 at *
      generalize annN b1 b0 = y4 at *
      generalize 5 * k = p at *
      have hp0 : (0 : Int) ≤ (p : Int) ∧ (p : Int) ≤ 25 := by omega
      go_wp2_with fail
      go_quiet (fail)
      have HF := Lib.hid (HE.out nq)
      clear HE
      go_wp2_with fail
      go_roundw
      case rel => exact ⟨k + 1, by go_num, by omega, HF.out⟩
      case measure => simp [intOf]; omega
    · obtain rfl : k = 5 := by omega
      have HS := Lib.hid (And.intro hS.1 (hS.2.congr (g := bndN f) fun j hj => if_pos (by omega))); clear hS
      go_wp2_with fail
      go_end0
      exact ⟨rfl, HS.out⟩
end Go.Proofs.YtienelgkdhmelaaDoor
