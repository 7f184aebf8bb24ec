/- The contract of modular.climb, whatever closures it is handed. -/
import Derived.Test.YthbfhfgmanafpaaModB
namespace Go.Proofs.Ythbfhfgmanafpaa
open Go.RowKit
attribute [local go_sem ↓] Go.wp_at_zero Go.wp_at_succ

/-- What climb knows in memory: its number, its start, its result's variable; what is reached. -/
def ClimbS (w : World) (n3 n2 n1 n0 z3 z2 z1 z0 v3 v2 v1 v0 : Nat) (W : World) : Prop :=
  Fr w w.heap.size (w.heap.size + 1 + 1 + 1) [(w.heap.size + 1 + 1, #[.int .u64 0, .int .u64 0, .int .u64 0, .int .u64 0], 24), (w.heap.size + 1, #[.int .u64 z3, .int .u64 z2, .int .u64 z1, .int .u64 z0], 24), (w.heap.size, #[.int .u64 n3, .int .u64 n2, .int .u64 n1, .int .u64 n0], 24)] W ∧
    W.heap[w.heap.size + 1 + 1 + 1]? = some (.cells #[.int .u64 v3, .int .u64 v2, .int .u64 v1, .int .u64 v0] 24 (0, 0))
theorem ClimbS.call {w W w1 : World} {n3 n2 n1 n0 z3 z2 z1 z0 v3 v2 v1 v0 : Nat} (h : ClimbS w n3 n2 n1 n0 z3 z2 z1 z0 v3 v2 v1 v0 W) (hb : Below W.heap.size W w1) : ClimbS w n3 n2 n1 n0 z3 z2 z1 z0 v3 v2 v1 v0 w1 :=
  ⟨h.1.call hb, (hb.block _ (lt_of h.2)).trans h.2⟩
theorem ClimbS.set {w W : World} {n3 n2 n1 n0 z3 z2 z1 z0 v3 v2 v1 v0 : Nat} (h : ClimbS w n3 n2 n1 n0 z3 z2 z1 z0 v3 v2 v1 v0 W) (r3 r2 r1 r0 : Nat) :
    ClimbS w n3 n2 n1 n0 z3 z2 z1 z0 r3 r2 r1 r0 ((((W.setCell ⟨w.heap.size + 1 + 1 + 1, 0, none⟩ (.int .u64 r3)).setCell ⟨w.heap.size + 1 + 1 + 1, 1, none⟩ (.int .u64 r2)).setCell ⟨w.heap.size + 1 + 1 + 1, 2, none⟩ (.int .u64 r1)).setCell ⟨w.heap.size + 1 + 1 + 1, 3, none⟩ (.int .u64 r0)) :=
  ⟨h.1.set4 (Nat.le_refl _) _ _ _ _, heap_set4 h.2 _ _ _ _⟩

/-- Where climb stands: p is what of n is climbed. -/
def ClimbAt (n p : Nat) (i : Value) : Prop := (∃ k : Nat, k < 256 ∧ i = .int .i64 k ∧ p = n / 2 ^ (k + 1)) ∨ (i = .int .i64 (-1) ∧ p = n)
def ClimbRel (w : World) (I : Nat → Nat → Prop) (n n3 n2 n1 n0 z3 z2 z1 z0 : Nat) (i : Value) (W : World) : Prop :=
  ∃ p v v3 v2 v1 v0, ClimbAt n p i ∧ I p v ∧ Dig v v0 v1 v2 v3 ∧ ClimbS w n3 n2 n1 n0 z3 z2 z1 z0 v3 v2 v1 v0 W

theorem ClimbAt.start {n l : Nat} (h : BitLen n l) : ClimbAt n 0 (.int .i64 ((l : Int) - 1)) := by
  obtain ⟨h1, h2, _⟩ := h
  rcases Nat.eq_zero_or_pos l with rfl | hp
  · exact .inr ⟨rfl, by simp at h2; omega⟩
  · obtain ⟨k, rfl⟩ : ∃ k, l = k + 1 := ⟨l - 1, by omega⟩
    exact .inl ⟨k, by omega, by congr 1; omega, (Nat.div_eq_of_lt h2).symm⟩
theorem ClimbAt.next {n k : Nat} (hk : k < 256) : ClimbAt n (2 * (n / 2 ^ (k + 1)) + n / 2 ^ k % 2) (.int .i64 ((k : Int) - 1)) := by
  have e : 2 * (n / 2 ^ (k + 1)) + n / 2 ^ k % 2 = n / 2 ^ k := by
    rw [Nat.pow_succ, ← Nat.div_div_eq_div_mul]
    exact Nat.div_add_mod _ _
  rw [e]
  rcases Nat.eq_zero_or_pos k with rfl | hp
  · exact .inr ⟨rfl, by simp⟩
  · obtain ⟨j, rfl⟩ : ∃ j, k = j + 1 := ⟨k - 1, by omega⟩
    exact .inl ⟨j, by omega, by congr 1; omega, rfl⟩

set_option maxRecDepth 100000 in
set_option maxHeartbeats 4000000 in
theorem climb_c (f g : FuncId) (cf cg : Array Value) (I : Nat → Nat → Prop) {n z n3 n2 n1 n0 z3 z2 z1 z0 : Nat} (hn : Dig n n0 n1 n2 n3) (hz : Dig z z0 z1 z2 z3) (w : World)
    (hf : ∀ (v : Value) (w : World), (callFunc f (#[v] ++ cf)).run Try.prog w = .ok (.enter f (#[v] ++ cf)) w)
    (hg : ∀ (v : Value) (w : World), (callFunc g (#[v] ++ cg)).run Try.prog w = .ok (.enter g (#[v] ++ cg)) w)
    (h0 : I 0 z)
    (hD : ∀ p v v3 v2 v1 v0 W, Below w.heap.size w W → Dig v v0 v1 v2 v3 → I p v → Calls Try.prog f (#[.agg #[.int .u64 v3, .int .u64 v2, .int .u64 v1, .int .u64 v0]] ++ cf) W (RetW (fun s => I (2 * p) s) W))
    (hA : ∀ p v v3 v2 v1 v0 W, Below w.heap.size w W → Dig v v0 v1 v2 v3 → I (2 * p) v → Calls Try.prog g (#[.agg #[.int .u64 v3, .int .u64 v2, .int .u64 v1, .int .u64 v0]] ++ cg) W (RetW (fun s => I (2 * p + 1) s) W)) :
    Calls Try.prog 47 #[.agg #[.int .u64 n3, .int .u64 n2, .int .u64 n1, .int .u64 n0], .agg #[.int .u64 z3, .int .u64 z2, .int .u64 z1, .int .u64 z0], .func (.func f) #[] cf, .func (.func g) #[] cg] w (RetW (fun s => I n s) w) := by
  have H := ((((Fx.start w).new #[.int .u64 n3, .int .u64 n2, .int .u64 n1, .int .u64 n0] 24).new #[.int .u64 z3, .int .u64 z2, .int .u64 z1, .int .u64 z0] 24).new #[.int .u64 0, .int .u64 0, .int .u64 0, .int .u64 0] 24)
  have H0 : ClimbS w n3 n2 n1 n0 z3 z2 z1 z0 z3 z2 z1 z0 _ := ⟨H.1.alloc (.cells #[.int .u64 z3, .int .u64 z2, .int .u64 z1, .int .u64 z0] 24), by rw [← H.2]; exact heap_alloc_new _ _⟩
  have L := Lib.hid (fun W => length_c hn W)
  have HN := Lib.hid hn; have HZ := Lib.hid hz; have HI := Lib.hid h0
  have HD := Lib.hid hD; have HA := Lib.hid hA
  clear hn hz h0 hD hA H
  replace H0 := Lib.hid H0
  go_enter Try.func47, Try.ntmps47
  go_wp2_with fail
  refine (L.out _).mono ?_
  rintro e w1 ⟨l, hl, rfl, hb1⟩
  have H1 := H0.out.call hb1
  have HS := Lib.hid (show ClimbRel w I n n3 n2 n1 n0 z3 z2 z1 z0 (.int .i64 ((l : Int) - 1)) w1 from ⟨0, z, z3, z2, z1, z0, ClimbAt.start hl, HI.out, HZ.out, H1⟩)
  have hl0 : (0 : Int) ≤ (l : Int) ∧ (l : Int) ≤ 256 := ⟨by omega, by have := hl.1; omega⟩
  clear hb1 H1 H0 hl L HI HZ
  go_wp2_with fail
  go_loopw [10] (fun i wr => ClimbRel w I n n3 n2 n1 n0 z3 z2 z1 z0 i wr) (fun i _ => (intOf i + 1).toNat)
  case atStart => exact HS.out
  case round =>
    clear HS hl0
    obtain ⟨p, v, v3, v2, v1, v0, hat, hI, hv, hS⟩ := hrel
    have kV := cells4 hS.2
    have nV := lt_of hS.2
    rcases hat with ⟨k, hk, rfl, rfl⟩ | ⟨rfl, rfl⟩
    · have D := Lib.hid (HD.out _ _ _ _ _ _ wr hS.1.below hv hI)
      have hs := Lib.hid hS
      have hk0 : (0 : Int) ≤ (k : Int) ∧ (k : Int) < 256 := by omega
      have HK := Lib.hid hk
      clear hS hI hv hk
      go_wp2_with fail
      refine D.out.mono ?_
      rintro e w2 ⟨u, u3, u2, u1, u0, rfl, hu, hIu, hb2⟩
      have hS2 := hs.out.call hb2
      have kV := cells4 hS2.2
      have nV := lt_of hS2.2
      have kN := hS2.1.row (.tail _ (.tail _ (.head _)))
      have nN := hS2.1.lt (.tail _ (.tail _ (.head _)))
      have HS2 := Lib.hid (hS2.set u3 u2 u1 u0)
      have IS := Lib.hid (fun W => isSet_c HN.out HK.out W)
      have HU := Lib.hid hu; have HIu := Lib.hid hIu
      clear hb2 hS2 hu hIu D hs
      go_wp2_with fail
      generalize World.setCell _ _ _ = W2 at HS2 ⊢
      clear kV nV kN nN
      refine (IS.out _).mono ?_
      rintro e w3 ⟨rfl, hb3⟩
      have hS3 := HS2.out.call hb3
      have HNx := Lib.hid (ClimbAt.next (n := n) HK.out)
      clear hb3 HS2 IS
      by_cases hbit : n / 2 ^ k % 2 = 1
      · rw [hbit] at HNx
        rw [decide_eq_true hbit]
        have kV := cells4 hS3.2
        have nV := lt_of hS3.2
        have D := Lib.hid (HA.out _ _ _ _ _ _ w3 hS3.1.below HU.out HIu.out)
        have hs := Lib.hid hS3
        clear hS3 hbit
        go_wp2_with fail
        refine D.out.mono ?_
        rintro e w4 ⟨t, t3, t2, t1, t0, rfl, ht, hIt, hb4⟩
        have hS4 := hs.out.call hb4
        have kV := cells4 hS4.2
        have nV := lt_of hS4.2
        have HS4 := Lib.hid (hS4.set t3 t2 t1 t0)
        have HT := Lib.hid ht; have HIt := Lib.hid hIt
        clear hb4 hS4 ht hIt D hs
        go_wp2_with fail
        go_roundw
        case rel => exact ⟨_, t, t3, t2, t1, t0, HNx.out, HIt.out, HT.out, HS4.out⟩
        case measure => (simp [intOf]; try omega)
      · have hb0 : n / 2 ^ k % 2 = 0 := by omega
        rw [hb0, Nat.add_zero] at HNx
        rw [decide_eq_false hbit]
        have hs := Lib.hid hS3
        clear hS3 hbit hb0
        go_wp2_with fail
        go_roundw
        case rel => exact ⟨_, u, u3, u2, u1, u0, HNx.out, HIu.out, HU.out, hs.out⟩
        case measure => (simp [intOf]; try omega)
    · have kR := cells4 (hS.1.know _ (.head _)).2
      have nR := hS.1.lt (.head _)
      have KR := Lib.hid (hS.1.know _ (.head _)).2
      have hs := Lib.hid hS
      have HI2 := Lib.hid hI; have HV := Lib.hid hv
      clear hS hI hv
      go_wp2_with fail
      exact bodyPost_ret (results_cell_row Try.results47 _ _ _ _ _ _ _ rfl (heap_set4 KR.out _ _ _ _) Try.underlying24 rfl (by kernel_rfl)) rfl
        ⟨v, _, _, _, _, rfl, HV.out, HI2.out, below_set4 hs.out.1.below (by omega) _ _ _ _⟩

end Go.Proofs.Ythbfhfgmanafpaa
