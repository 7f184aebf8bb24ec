/- The contract of (*lanes).turn. -/
import Derived.Test.YtienelgkdhmelaaDoorKMove
import Derived.Test.YtienelgkdhmelaaDoorKBend
import Derived.Test.YtienelgkdhmelaaDoorKNext
namespace Go.Proofs.YtienelgkdhmelaaDoor
open Go.RowKit

/-- The register ahead of a round; a round; the state behind k rounds. -/
def rk : Nat → Nat
  | 0 => 1
  | k + 1 => rg (rk k) 7
theorem rk_lt : ∀ k, rk k < 256
  | 0 => by decide
  | k + 1 => rg_lt (rk_lt k) 7
def preN (f : Nat → Nat) : Nat → Nat := bndN (movN (mixN f))
def rndN (f : Nat → Nat) (c : Nat) : Nat → Nat := upd (preN f) 0 (preN f 0 ^^^ c)
def stN (f : Nat → Nat) : Nat → Nat → Nat
  | 0 => f
  | k + 1 => rndN (stN f k) (cn (rk k) 7)
theorem preN_lt {f : Nat → Nat} (hf : ∀ i, f i < M64) (i : Nat) : preN f i < M64 := bndN_lt (fun j => movF_lt (fun l => mixN_lt hf l) 24 j) i
theorem rndN_lt {f : Nat → Nat} (hf : ∀ i, f i < M64) {c : Nat} (hc : c < M64) (i : Nat) : rndN f c i < M64 := by
  unfold rndN upd
  split
  · exact xor_lt (preN_lt hf 0) hc
  · exact preN_lt hf i
theorem stN_lt {f : Nat → Nat} (hf : ∀ i, f i < M64) : ∀ k i, stN f k i < M64
  | 0, i => hf i
  | k + 1, i => rndN_lt (stN_lt hf k) (cn_lt _ _) i

/-- What turn knows: the state's block B, the register's block C. -/
structure TurnS (w : World) (B C : Nat) (f : Nat → Nat) (r : Nat) (W : World) : Prop where
  only : Only (fun b => b = B ∨ b = C) w.heap.size w W
  lan : Lan B f W
  reg : W.heap[C]? = some (.cells #[.int .u8 (r : Int)] 37 (0, 0))
theorem TurnS.to {w W W' : World} {B C : Nat} {f g : Nat → Nat} {r : Nat} (h : TurnS w B C f r W) (hne : ¬ C = B) (k : LanTo B W g W') : TurnS w B C g r W' :=
  ⟨h.only.trans (k.1.mono h.only.size fun _ _ e => .inl e), k.2, (k.1.block C (lt_of h.reg) hne).trans h.reg⟩
theorem TurnS.walk {w W : World} {B C : Nat} {f : Nat → Nat} {r : Nat} (h : TurnS w B C f r W) (hB : 0 < B) (hC : 0 < C) (hB2 : B < w.heap.size) (hT : Walk w) : Walk W := by
  obtain ⟨t, fr, ht⟩ := hT
  exact ⟨t, fr, (h.only.block 0 (by omega) (by omega)).trans ht⟩
theorem TurnS.next {w W : World} {B C : Nat} {f : Nat → Nat} {r q : Nat} (h : TurnS w B C f r W) (hne : ¬ B = C) : TurnS w B C f q (W.setCell ⟨C, 0, none⟩ (.int .u8 (q : Int))) := by
  refine ⟨h.only.setCell (.inr (.inr rfl)) _, ?_, ?_⟩
  · show (W.setCell _ _).heap[B]? = _
    rw [heap_setCell_other _ _ _ _ hne]
    exact h.lan
  · rw [heap_setCell_same _ _ _ _ _ _ h.reg]
    rfl
theorem TurnS.drew {w W : World} {B C : Nat} {f : Nat → Nat} {r : Nat} (h : TurnS w B C f r W) : TurnS w B C f r W.drew := ⟨h.only.drew, h.lan, h.reg⟩
theorem TurnS.set {w W : World} {B C : Nat} {f : Nat → Nat} {r : Nat} (h : TurnS w B C f r W) (hne : ¬ C = B) (j v : Nat) : TurnS w B C (upd f j v) r (W.setCell ⟨B, j, none⟩ (.int .u64 (v : Int))) := by
  refine ⟨h.only.setCell (.inr (.inl rfl)) _, h.lan.set j v, ?_⟩
  rw [heap_setCell_other _ _ _ _ hne]
  exact h.reg

set_option maxRecDepth 100000 in
set_option maxHeartbeats 4000000 in
theorem turn_c {B C : Nat} {f : Nat → Nat} (hf : ∀ i, f i < M64) (w : World) (hB0 : 0 < B) (hC0 : 0 < C) (hne : ¬ C = B) (hS : TurnS w B C f 1 w) (hT : Walk w) :
    Calls Tryd.prog 16 #[.pointer (some ⟨B, 0, none⟩), .func (.func 17) #[.pointer (some ⟨C, 0, none⟩)] #[]] w fun e w' => e = .returned (.tuple #[]) ∧ TurnS w B C (stN f 24) (rk 24) w' := by
  have HB2 := lt_of hS.lan
  have HT := Lib.hid hT; clear hT
  have H0 := Lib.hid (show TurnS w B C (stN f 0) (rk 0) w from hS); clear hS
  have HN := Lib.hid hne
  go_enter Tryd.func16, Tryd.ntmps16
  go_wp2_with fail
  go_loopw [4] (fun i wr => ∃ k : Nat, i = .int .i64 k ∧ k ≤ 24 ∧ TurnS w B C (stN f k) (rk k) wr) (fun i _ => 24 - (intOf i).toNat)
  case atStart => exact ⟨0, rfl, by omega, H0.out⟩
  case round =>
    clear H0
    obtain ⟨k, rfl, hk, hS⟩ := hrel
    by_cases hlt : k < 24
    · have hg := stN_lt hf k
      have hpl := preN_lt hg 0
      have hx := xor64 hpl (cn_lt (rk k) 7)
      have HX := Lib.hid (show stN f (k + 1) = upd (preN (stN f k)) 0 (preN (stN f k) 0 ^^^ cn (rk k) 7) from rfl)
      have HR := Lib.hid (show rk (k + 1) = rg (rk k) 7 from rfl)
      have hrl := rk_lt k
      have HS := Lib.hid hS; clear hS
      have hlti : (k : Int) < 24 := by omega
      generalize rk k = r at *
      generalize hs : stN f k = g at *
      clear hs
      go_wp2_with fail
      refine (mix_c hg _ HS.out.lan).mono ?_
      rintro e w1 ⟨rfl, h1⟩
      have S1 := Lib.hid (HS.out.to hne h1)
      clear h1 HS
      go_wp2_with fail
      refine (move_c (mixN_lt hg) _ S1.out.lan (S1.out.walk hB0 hC0 HB2 HT.out)).mono ?_
      rintro e w2 ⟨rfl, h2⟩
      have S2 := Lib.hid (S1.out.to hne h2)
      clear h2 S1
      go_wp2_with fail
      refine (bend_c (movF_lt (mixN_lt hg) 24) _ S2.out.lan).mono ?_
      rintro e w3 ⟨rfl, h3⟩
      have S3 := Lib.hid (show TurnS w B C (preN g) r w3 from S2.out.to hne h3)
      clear h3 S2
      go_wp2_with fail
      have H0 : w3.drew.cell? ⟨B, 0, none⟩ = some (.int .u64 (preN g 0 : Nat)) := (cell_of S3.out.drew.lan 0).trans (blk_at _ _ (by decide))
      have HS := Lib.hid (fun (W : World) (hW : W.cell? ⟨B, 0, none⟩ = some (.int .u64 (preN g 0 : Nat))) => hW)
      have HE := Lib.hid (((S3.out.drew.next (q := rg r 7) (fun e => hne e.symm)).set hne 0 (preN g 0 ^^^ cn r 7)))
      have Hc := Lib.hid ((cell_of (S3.out.drew.next (q := rg r 7) (fun e => hne e.symm)).lan 0).trans (blk_at _ _ (by decide)))
      have Hz := Lib.hid (And.intro ((cell_of S3.out.lan 0).trans (blk_at .u64 (preN g) (by decide))) (free_of S3.out.lan 0))
      have HG := Lib.hid (S3.out.drew.reg)
      clear S3
      generalize preN g 0 ^^^ cn r 7 = z at *
      generalize preN g 0 = x at *
      refine Drawn.start (fun W => W.cell? ⟨B, 0, none⟩ = some (.int .u64 (x : Nat))) (fun i => i == 9) (by kernel_rfl) ?_
      refine Drawn.take 0 (some 12) (v := ?_) rfl rfl (by kernel_rfl) (by kernel_rfl) (by kernel_rfl) (by kernel_rfl) (by kernel_rfl) rfl (fun _ _ _ h => h) (Or.inl ⟨rfl, ?_⟩) H0 ?_
      rotate_left
      · intro W hW; have hW := HS.out W hW; go_simp; try with_reducible rfl
      simp only [put_list, List.set]
      refine Drawn.take 1 (some 13) (v := ?_) rfl rfl (by kernel_rfl) (by kernel_rfl) (by kernel_rfl) (by kernel_rfl) (by kernel_rfl) rfl (fun _ _ _ h => h) (Or.inl ⟨rfl, ?_⟩) H0 ?_
      rotate_left
      · intro W hW; have hW := HS.out W hW; go_simp; try with_reducible rfl
      simp only [put_list, List.set]
      refine Drawn.take 2 (some 14) (v := ?_) rfl rfl (by kernel_rfl) (by kernel_rfl) (by kernel_rfl) (by kernel_rfl) (by kernel_rfl) rfl (fun _ _ _ h => h) (Or.inl ⟨rfl, ?_⟩) H0 ?_
      rotate_left
      · intro W hW; have hW := HS.out W hW; go_simp; try with_reducible rfl
      simp only [put_list, List.set]
      refine Drawn.take 3 (some 15) (v := ?_) rfl rfl (by kernel_rfl) (by kernel_rfl) (by kernel_rfl) (by kernel_rfl) (by kernel_rfl) rfl (fun _ _ _ h => h) (Or.inl ⟨rfl, ?_⟩) H0 ?_
      rotate_left
      · intro W hW; have hW := HS.out W hW; go_simp; try with_reducible rfl
      simp only [put_list, List.set]
      refine Drawn.take 4 (some 16) (v := ?_) rfl rfl (by kernel_rfl) (by kernel_rfl) (by kernel_rfl) (by kernel_rfl) (by kernel_rfl) rfl (fun _ _ _ h => h) (Or.inl ⟨rfl, ?_⟩) H0 ?_
      rotate_left
      · intro W hW; have hW := HS.out W hW; go_simp; try with_reducible rfl
      simp only [put_list, List.set]
      refine Drawn.free 7 (some 19) (v := ?_) rfl rfl (by kernel_rfl) (by kernel_rfl) (by kernel_rfl) rfl (fun _ _ _ h => h) (Or.inl ⟨rfl, ?_⟩) (fun _ => H0) ?_
      rotate_left
      · intro W; go_simp; try with_reducible rfl
      simp only [put_list, List.set]
      refine Drawn.only 5 (by kernel_rfl) rfl rfl (fun K hK => ?_)
      go_simp
      refine (next_c hrl _ HG.out).mono ?_
      rintro e w4 ⟨rfl, rfl⟩
      refine hK _ _ (fun _ _ => Hc.out) ?_
      replace H0 := Hc.out
      clear hK K
      refine Drawn.take 6 (some 18) (v := ?_) rfl rfl (by kernel_rfl) (by kernel_rfl) (by kernel_rfl) (by kernel_rfl) (by kernel_rfl) rfl (fun _ _ _ h => h) (Or.inl ⟨rfl, ?_⟩) H0 ?_
      rotate_left
      · intro W hW; have hW := HS.out W hW; go_simp; try with_reducible rfl
      simp only [put_list, List.set]
      refine Drawn.take 8 (some 20) (v := ?_) rfl rfl (by kernel_rfl) (by kernel_rfl) (by kernel_rfl) (by kernel_rfl) (by kernel_rfl) rfl (fun _ _ _ h => h) (Or.inl ⟨rfl, ?_⟩) H0 ?_
      rotate_left
      · intro W hW; have hW := HS.out W hW; go_simp; try with_reducible rfl
      simp only [put_list, List.set]
      obtain ⟨hz1, hz2⟩ := Hz.out
      refine Drawn.only 9 (by kernel_rfl) rfl rfl (fun K hK => ?_)
      go_simp
      refine hK _ _ (fun h => by simp at h) ?_
      clear hK K
      refine Drawn.done (by kernel_rfl) ?_ _
      go_wp2_with fail
      go_roundw
      case rel => exact ⟨k + 1, by go_num, by omega, by rw [HX.out, HR.out]; exact HE.out⟩
      case measure => simp [intOf]; omega
    · obtain rfl : k = 24 := by omega
      have HS := Lib.hid hS; clear hS
      go_wp2_with fail
      go_end0
      exact ⟨rfl, HS.out⟩
end Go.Proofs.YtienelgkdhmelaaDoor
