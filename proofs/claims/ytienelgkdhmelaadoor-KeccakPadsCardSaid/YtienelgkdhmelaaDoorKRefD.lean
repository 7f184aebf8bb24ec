/- The reference's Permute. -/
import Derived.Test.YtienelgkdhmelaaDoorKRefC
namespace Go.Proofs.YtienelgkdhmelaaDoor
open Go.RowKit

/-- What a round reads that the rounds leave alone. -/
structure Fix (w : World) (p : Option Addr) (f : Nat → Nat) (r g : Nat) (W : World) : Prop where
  below : Below w.heap.size w W
  lan : Sl p 25 f W
  rot : ∀ j, j < 25 → W.cell? ⟨r, j, none⟩ = some (.int .i64 (rotT 24 j : Nat))
  con : ∀ j, j < 24 → W.cell? ⟨g, j, none⟩ = some (.int .u64 (cn (rk j) 7 : Nat))
theorem Fix.later {w W W' : World} {p : Option Addr} {f : Nat → Nat} {r g : Nat} (h : Fix w p f r g W) (hb : Below W.heap.size W W') : Fix w p f r g W' :=
  ⟨h.below.trans (hb.mono h.below.size), h.lan.later hb, fun j hj => cell_later hb (h.rot j hj), fun j hj => cell_later hb (h.con j hj)⟩

set_option maxRecDepth 100000 in
set_option maxHeartbeats 40000000 in
theorem rperm_c {f : Nat → Nat} (hf : ∀ i, f i < M64) {p : Option Addr} {cap : Nat} (w : World) (hp : Sl p 25 f w) :
    Calls Tryd.prog 12 #[.slice p 25 cap] w fun e w' => ∃ g, e = .returned (.slice (some ⟨g, 0, none⟩) 25 25) ∧ w.heap.size ≤ g ∧ w'.heap[g]? = some (.cells (blk .u64 25 (permN f)) 26 (0, 0)) ∧ Below w.heap.size w w' := by
  have hm5 : ∀ w : World, (Instr.makeSlice 25 (.int .i64 5) (.int .i64 5)).run Tryd.prog w = .ok (.slice (some ⟨w.heap.size, 0, none⟩) 5 5) (w.alloc (.cells (blk .u64 5 fun _ => 0) 26)) := fun _ => by kernel_rfl
  have hm25 : ∀ w : World, (Instr.makeSlice 25 (.int .i64 25) (.int .i64 25)).run Tryd.prog w = .ok (.slice (some ⟨w.heap.size, 0, none⟩) 25 25) (w.alloc (.cells (blk .u64 25 fun _ => 0) 26)) := fun _ => by kernel_rfl
  have HP := Lib.hid hp; clear hp
  go_enter Tryd.func12, Tryd.ntmps12
  go_wp2_with (go_at_call 18; refine (rots_c _).mono ?_)
  rintro e w1 ⟨rfl, h1⟩
  have H1 := Lib.hid h1; clear h1
  go_wp2_with (go_at_call 19; refine (consts_c _).mono ?_)
  rintro e w2 ⟨v, rfl, h2⟩
  obtain ⟨g, cp, rfl, H2⟩ : ∃ g cp, v = .slice (some ⟨g, 0, none⟩) 24 cp ∧ Fix w p f w.heap.size g w2 := by
    rcases h2.own.2 with ⟨_, h0⟩ | ⟨g, cp, cur, rfl, _⟩
    · simp at h0
    · have hb : Below w.heap.size w w2 := H1.out.below.trans (h2.below.mono H1.out.below.size)
      refine ⟨g, cp, rfl, hb, HP.out.later hb, fun j hj => cell_later h2.below ((cell_of H1.out.row j).trans (blk_at _ _ hj)), fun j hj => ?_⟩
      have h := h2.own.cells (g := g) rfl j (rcV j) (rcL_at hj)
      have e : (⟨g, 0, none⟩ : Addr).add j = ⟨g, j, none⟩ := by unfold Addr.add; split <;> simp_all
      rw [e] at h
      exact h
  clear h2
  have HN := Lib.hid (show w.heap.size + 0 ≤ w2.heap.size from H2.below.size)
  have H3 := Lib.hid (show Fix w p (stN f 0) w.heap.size g w2 from H2)
  clear H2 H1 HP
  go_wp2_with fail
  go_loopw [0, 5] (fun a i wr => ∃ (k : Nat) (q : Option Addr) (c : Nat), i = .int .i64 k ∧ k ≤ 24 ∧ a = .slice q 25 c ∧ Fix w q (stN f k) w.heap.size g wr ∧ (0 < k → c = 25 ∧ ∃ b, q = some ⟨b, 0, none⟩ ∧ w.heap.size ≤ b ∧ wr.heap[b]? = some (.cells (blk .u64 25 (stN f k)) 26 (0, 0)))) (fun _ i _ => 24 - (intOf i).toNat)
  case atStart => exact ⟨0, p, cap, rfl, by omega, rfl, H3.out, fun h => absurd h (by omega)⟩
  case round =>
    clear H3 HN
    obtain ⟨k, q, c, rfl, hk, rfl, hS, hrow⟩ := hrel
    by_cases hlt : k < 24
    · clear hrow
      have hlti : (k : Int) < 24 := by omega
      have hF := stN_lt hf k
      have HF := Lib.hid (show Fix w q (stN f k) w.heap.size g wr from hS)
      have HX := Lib.hid (show stN f (k + 1) = upd (bndN (movN (mixN (stN f k)))) 0 (bndN (movN (mixN (stN f k))) 0 ^^^ cn (rk k) 7) from rfl)
      have HC := Lib.hid (And.intro (hS.con k hlt) (cn_lt (rk k) 7))
      obtain ⟨ab, ao, rfl, hac⟩ := hS.lan (by omega)
      have HA := Lib.hid hac
      have HR := Lib.hid hS.rot
      clear hS hac
      generalize cn (rk k) 7 = con at *
      generalize hFk : stN f k = F at *
      clear hFk
      have HI := Lib.hid (NR.start 5 wr (colP F 0) fun _ _ => rfl)
      go_wp2_with fail
      have hb0 : decide ((k : Int) < 24) = true := by simpa using hlti
      obtain ⟨v0, rfl⟩ : ∃ v0, v0 = wr := ⟨_, rfl⟩
      go_loopw [7] (fun i wr => ∃ m : Nat, i = .int .i64 m ∧ m ≤ 25 ∧ NR 5 v0 (colP F m) wr) (fun i _ => 25 - (intOf i).toNat)
      case atStart => exact ⟨0, rfl, by omega, HI.out⟩
      case round =>
        clear HI
        obtain ⟨m, rfl, hm, hS⟩ := hrel
        by_cases hlm : m < 25
        · have hmi : (m : Int) < 25 := by omega
          have c0 := hS.cell (j := m % 5) (by omega)
          have e0 := free_of hS.row (m % 5)
          have c1 := cell_later hS.below (HA.out m hlm)
          have HE := Lib.hid (hS.drew.set (m % 5) (colP F m (m % 5) ^^^ F m) (g := colP F (m + 1)) fun _ _ => rfl)
          have x0 := xor64 (colP_lt hF m (m % 5)) (hF m)
          have r1 : (m : Int).tmod 5 = ((m % 5 : Nat) : Int) := by rw [Int.tmod_eq_emod_of_nonneg (by omega)]; omega
          have r2 : (m : Int) % 5 = ((m % 5 : Nat) : Int) := by omega
          have hr : m % 5 < 5 := by omega
          clear hS
          generalize colP F m (m % 5) ^^^ F m = z at *
          generalize colP F m (m % 5) = y at *
          generalize F m = x at *
          generalize m % 5 = r at *
          have bm : (0 : Int) ≤ (m : Int) ∧ (m : Int) < 25 := by omega
          have br : (0 : Int) ≤ (r : Int) ∧ (r : Int) < 5 := by omega
          go_wp2_with fail
          go_still_tail 14, (by kernel_rfl)
          go_wp2_with fail
          clear hb0
          go_roundw
          case rel => exact ⟨m + 1, by go_num, by omega, HE.out⟩
          case measure => simp [intOf]; omega
        · obtain rfl : m = 25 := by omega
          have HB := Lib.hid (hS.congr (g := colN F) fun i hi => colP_end F hi)
          clear hS hlm hm
          obtain ⟨v1, rfl⟩ : ∃ v1, v1 = wr := ⟨_, rfl⟩
          have HM := Lib.hid (mixN_lt hF)
          have HI := Lib.hid (NR.start 25 v1 (bT (mixN F) 0) fun j _ => (if_neg (by omega)).symm)
          have HK := Lib.hid (show Below v0.heap.size v0 v1 from HB.out.below)
          go_wp2_with fail
          rw [show ((25 : Nat) : Int) = 25 from rfl]
          go_loopw [9] (fun i wr => ∃ m : Nat, i = .int .i64 m ∧ m ≤ 5 ∧ NR 25 v1 (bT (mixN F) (5 * m)) wr) (fun i _ => 5 - (intOf i).toNat)
          case atStart => exact ⟨0, rfl, by omega, HI.out⟩
          case round =>
            clear HI
            obtain ⟨m, rfl, hm, hS⟩ := hrel
            by_cases hlm : m < 5
            · have hmi : (m : Int) < 5 := by omega
              have HS0 := Lib.hid hS; clear hS
              go_wp2_with fail
              have hb1 : decide ((m : Int) < 5) = true := by simpa using hmi
              go_loopw [10] (fun i wr => ∃ t : Nat, i = .int .i64 t ∧ t ≤ 5 ∧ NR 25 v1 (bT (mixN F) (5 * m + t)) wr) (fun i _ => 5 - (intOf i).toNat)
              case atStart => exact ⟨0, rfl, by omega, HS0.out⟩
              case round =>
                clear HS0
                obtain ⟨t, rfl, ht, hS⟩ := hrel
                by_cases hlt : t < 5
                · have hti : (t : Int) < 5 := by omega
                  have hk1 : (5 * m + t) / 5 = m := by omega
                  have hk2 : (5 * m + t) % 5 = t := by omega
                  have hsrc : srcN (5 * m + t) = m + 5 * t := by unfold srcN; rw [hk1, hk2]
                  have hdst : dstN (5 * m + t) = t + 5 * ((2 * m + 3 * t) % 5) := by unfold dstN; rw [hk1, hk2]
                  have hx := mix_at F (5 * m + t)
                  rw [hsrc, hk1, hk2] at hx
                  have hst := fun j hj => bT_step HM.out (k := 5 * m + t) (by omega) (j := j) hj
                  rw [hsrc, hdst] at hst
                  have HE := Lib.hid (fun n => (hS.drewN n).set (t + 5 * ((2 * m + 3 * t) % 5)) (rotN (mixN F (m + 5 * t)) (rotT 24 (m + 5 * t))) (g := bT (mixN F) (5 * m + t + 1)) hst)
                  have hbl : Below v0.heap.size v0 wr := HK.out.trans (hS.below.mono HK.out.size)
                  have c0 := cell_later hbl (HA.out (m + 5 * t) (by omega))
                  have c1 := cell_later hS.below (HB.out.cell (j := (m + 4) % 5) (Nat.mod_lt _ (by decide)))
                  have c2 := cell_later hS.below (HB.out.cell (j := (m + 1) % 5) (Nat.mod_lt _ (by decide)))
                  have HC3 := Lib.hid (And.intro (cell_later hbl (HR.out (m + 5 * t) (by omega))) (free_of hS.row (t + 5 * ((2 * m + 3 * t) % 5))))
                  have HC4 := Lib.hid (show NR 25 v1 (bT (mixN F) (5 * m + t)) wr from hS)
                  have R1 := Lib.hid (fun W => turned_c (x := colN F ((m + 1) % 5)) (k := 1) (colN_lt hF _) (by decide) W)
                  have R2 := Lib.hid (fun W => turned_c (x := mixN F (m + 5 * t)) (k := rotT 24 (m + 5 * t)) (HM.out _) (Nat.lt_trans (rotT_lt _ _) (by decide)) W)
                  have x0 := xor64 (hF (m + 5 * t)) (colN_lt hF ((m + 4) % 5))
                  have x1 := xor64 (xor_lt (hF (m + 5 * t)) (colN_lt hF ((m + 4) % 5))) (rotN_lt (colN_lt hF ((m + 1) % 5)) 1)
                  rw [hx] at x1
                  have p1 : ((m : Int) + 4).tmod 5 = (((m + 4) % 5 : Nat) : Int) := by rw [Int.tmod_eq_emod_of_nonneg (by omega)]; omega
                  have p2 : ((m : Int) + 4) % 5 = (((m + 4) % 5 : Nat) : Int) := by omega
                  have q1 : ((m : Int) + 1).tmod 5 = (((m + 1) % 5 : Nat) : Int) := by rw [Int.tmod_eq_emod_of_nonneg (by omega)]; omega
                  have q2 : ((m : Int) + 1) % 5 = (((m + 1) % 5 : Nat) : Int) := by omega
                  have r1 : (2 * (m : Int) + 3 * (t : Int)).tmod 5 = (((2 * m + 3 * t) % 5 : Nat) : Int) := by rw [Int.tmod_eq_emod_of_nonneg (by omega)]; omega
                  have r2 : (2 * (m : Int) + 3 * (t : Int)) % 5 = (((2 * m + 3 * t) % 5 : Nat) : Int) := by omega
                  have hp : (m + 4) % 5 < 5 := Nat.mod_lt _ (by decide)
                  have hq : (m + 1) % 5 < 5 := Nat.mod_lt _ (by decide)
                  have hr : (2 * m + 3 * t) % 5 < 5 := Nat.mod_lt _ (by decide)
                  clear hS hbl hst hx hsrc hdst hk1 hk2
                  generalize rotN (mixN F (m + 5 * t)) (rotT 24 (m + 5 * t)) = z at *
                  generalize rotN (colN F ((m + 1) % 5)) 1 = y1 at *
                  generalize F (m + 5 * t) ^^^ colN F ((m + 4) % 5) = y2 at *
                  generalize mixN F (m + 5 * t) = y3 at *
                  generalize colN F ((m + 4) % 5) = a1 at *
                  generalize colN F ((m + 1) % 5) = a2 at *
                  generalize F (m + 5 * t) = a0 at *
                  generalize rotT 24 (m + 5 * t) = rt at *
                  generalize (m + 4) % 5 = p4 at *
                  generalize (m + 1) % 5 = p5 at *
                  generalize (2 * m + 3 * t) % 5 = p6 at *
                  have w1 : IntKind.i64.wrap (5 * (t : Int)) = 5 * (t : Int) := IntWalk.i64_in _ (by omega)
                  have w2 : IntKind.i64.wrap ((m : Int) + 5 * (t : Int)) = (m : Int) + 5 * (t : Int) := IntWalk.i64_in _ (by omega)
                  have w3 : IntKind.i64.wrap ((m : Int) + 4) = (m : Int) + 4 := IntWalk.i64_in _ (by omega)
                  have w4 : IntKind.i64.wrap ((m : Int) + 1) = (m : Int) + 1 := IntWalk.i64_in _ (by omega)
                  have n1 : ((m : Int) + 5 * (t : Int)).toNat = m + 5 * t := by omega
                  have b1 : (0 : Int) ≤ (m : Int) + 5 * (t : Int) ∧ (m : Int) + 5 * (t : Int) < 25 := by omega
                  have b2 : (0 : Int) ≤ (p4 : Int) ∧ (p4 : Int) < 5 := by omega
                  have b3 : (0 : Int) ≤ (p5 : Int) ∧ (p5 : Int) < 5 := by omega
                  go_wp2_with fail
                  go_quiet ((go_at_call 20; exact calm_draws (R1.out _)))
                  have c3 := HC3.out.1
                  have e3 := HC3.out.2
                  have w5 : IntKind.i64.wrap (2 * (m : Int)) = 2 * (m : Int) := IntWalk.i64_in _ (by omega)
                  have w6 : IntKind.i64.wrap (3 * (t : Int)) = 3 * (t : Int) := IntWalk.i64_in _ (by omega)
                  have w7 : IntKind.i64.wrap (2 * (m : Int) + 3 * (t : Int)) = 2 * (m : Int) + 3 * (t : Int) := IntWalk.i64_in _ (by omega)
                  have w8 : IntKind.i64.wrap (5 * (p6 : Int)) = 5 * (p6 : Int) := IntWalk.i64_in _ (by omega)
                  have w9 : IntKind.i64.wrap ((t : Int) + 5 * (p6 : Int)) = (t : Int) + 5 * (p6 : Int) := IntWalk.i64_in _ (by omega)
                  have n2 : ((t : Int) + 5 * (p6 : Int)).toNat = t + 5 * p6 := by omega
                  have b4 : (0 : Int) ≤ (t : Int) + 5 * (p6 : Int) ∧ (t : Int) + 5 * (p6 : Int) < 25 := by omega
                  clear x0 x1 p1 p2 q1 q2 b2 b3 w3 w4 c0 c1 c2 hp hq
                  go_wp2_with (go_at_call 20; refine (R2.out _).mono ?_)
                  rintro e w10 ⟨rfl, n3, rfl⟩
                  rw [World.drewN_drewN]
                  have e4 : (wr.drewN (nq + n3)).frozen? ⟨v1.heap.size, t + 5 * p6, none⟩ = false := e3
                  have HE2 := Lib.hid (HE.out (nq + n3))
                  have HD4 := Lib.hid ((HC4.out.drewN (nq + n3)).cell (j := t + 5 * p6) (by omega))
                  have d4 := HD4.out
                  generalize bT (mixN F) (5 * m + t) (t + 5 * p6) = old at *
                  clear HE c3 e3 HC3 HC4 R1 R2
                  generalize wr.drewN (nq + n3) = wq at *
                  clear w1 w2 n1 b1
                  go_wp2_with fail
                  clear hb0 hb1 n2 b4 w5 w6 w7 w8 w9 r1 r2 d4
                  go_roundw
                  case rel => exact ⟨t + 1, by go_num, by omega, HE2.out⟩
                  case measure => simp [intOf]; omega
                · obtain rfl : t = 5 := by omega
                  have HE := Lib.hid (show NR 25 v1 (bT (mixN F) (5 * (m + 1))) wr from hS)
                  clear hS hlt ht
                  go_wp2_with fail
                  clear hb0 hb1
                  go_roundw
                  case rel => exact ⟨m + 1, by go_num, by omega, HE.out⟩
                  case measure => simp [intOf]; omega
            · obtain rfl : m = 5 := by omega
              have HO := Lib.hid (hS.congr (g := movN (mixN F)) fun i hi => bT_end _ hi)
              clear hS hlm hm
              obtain ⟨v2, rfl⟩ : ∃ v2, v2 = wr := ⟨_, rfl⟩
              have HJ := Lib.hid (show Below v0.heap.size v0 v2 from HK.out.trans (HO.out.below.mono HK.out.size))
              have HG := Lib.hid (fun i => movF_lt HM.out 24 i)
              have HI := Lib.hid (NR.start 25 v2 (oT (movN (mixN F)) 0) fun j _ => (if_neg (by omega)).symm)
              clear HK HB HM HR HA
              rw [show movF (mixN F) 24 = movN (mixN F) from rfl] at HG
              generalize movN (mixN F) = G at *
              go_wp2_with fail
              rw [show ((5 : Nat) : Int) = 5 from rfl]
              go_loopw [13] (fun i wr => ∃ m : Nat, i = .int .i64 m ∧ m ≤ 5 ∧ NR 25 v2 (oT G (5 * m)) wr) (fun i _ => 5 - (intOf i).toNat)
              case atStart => exact ⟨0, rfl, by omega, HI.out⟩
              case round =>
                clear HI
                obtain ⟨m, rfl, hm, hS⟩ := hrel
                by_cases hlm : m < 5
                · have hmi : (m : Int) < 5 := by omega
                  have HS0 := Lib.hid hS; clear hS
                  go_wp2_with fail
                  have hb1 : decide ((m : Int) < 5) = true := by simpa using hmi
                  go_loopw [14] (fun i wr => ∃ t : Nat, i = .int .i64 t ∧ t ≤ 5 ∧ NR 25 v2 (oT G (5 * m + t)) wr) (fun i _ => 5 - (intOf i).toNat)
                  case atStart => exact ⟨0, rfl, by omega, HS0.out⟩
                  case round =>
                    clear HS0
                    obtain ⟨t, rfl, ht, hS⟩ := hrel
                    by_cases hlt : t < 5
                    · have hti : (t : Int) < 5 := by omega
                      have hk1 : (5 * m + t) / 5 = m := by omega
                      have hk2 : (5 * m + t) % 5 = t := by omega
                      have hsrc : srcN (5 * m + t) = m + 5 * t := by unfold srcN; rw [hk1, hk2]
                      have hst := fun j hj => oT_step G (k := 5 * m + t) (by omega) (j := j) hj
                      rw [hsrc] at hst
                      have HE := Lib.hid (hS.set (m + 5 * t) (bndN G (m + 5 * t)) (g := oT G (5 * m + t + 1)) hst).drew
                      have hv : bndN G (m + 5 * t) = G (m + 5 * t) ^^^ ((M64 - 1 - G ((m + 1) % 5 + 5 * t)) &&& G ((m + 2) % 5 + 5 * t)) := by
                        unfold bndN annN
                        rw [show (m + 5 * t) % 5 = m by omega, show (m + 5 * t) / 5 = t by omega]
                      have c0 := cell_later hS.below (HO.out.cell (j := m + 5 * t) (by omega))
                      have c1 := cell_later hS.below (HO.out.cell (j := (m + 1) % 5 + 5 * t) (by omega))
                      have c2 := cell_later hS.below (HO.out.cell (j := (m + 2) % 5 + 5 * t) (by omega))
                      have d0 := hS.cell (j := m + 5 * t) (by omega)
                      have e0 := free_of hS.row (m + 5 * t)
                      have y1 := not64 (HG.out ((m + 1) % 5 + 5 * t))
                      have hlt1 : M64 - 1 - G ((m + 1) % 5 + 5 * t) < M64 := by unfold M64; omega
                      have y2 := and64 hlt1 (HG.out ((m + 2) % 5 + 5 * t))
                      have y3 := xor64 (HG.out (m + 5 * t)) (show (M64 - 1 - G ((m + 1) % 5 + 5 * t)) &&& G ((m + 2) % 5 + 5 * t) < M64 by
                        have h := HG.out ((m + 2) % 5 + 5 * t); rw [M64_pow] at *; exact Nat.and_lt_two_pow _ h)
                      rw [← hv] at y3
                      have YY := Lib.hid (And.intro y1 (And.intro y2 y3))
                      clear y1 y2 y3
                      have q1 : ((m : Int) + 1).tmod 5 = (((m + 1) % 5 : Nat) : Int) := by rw [Int.tmod_eq_emod_of_nonneg (by omega)]; omega
                      have q2 : ((m : Int) + 1) % 5 = (((m + 1) % 5 : Nat) : Int) := by omega
                      have r1 : ((m : Int) + 2).tmod 5 = (((m + 2) % 5 : Nat) : Int) := by rw [Int.tmod_eq_emod_of_nonneg (by omega)]; omega
                      have r2 : ((m : Int) + 2) % 5 = (((m + 2) % 5 : Nat) : Int) := by omega
                      have hq : (m + 1) % 5 < 5 := Nat.mod_lt _ (by decide)
                      have hr : (m + 2) % 5 < 5 := Nat.mod_lt _ (by decide)
                      clear hS hst hsrc hk1 hk2 hv hlt1
                      generalize bndN G (m + 5 * t) = z at *
                      generalize (M64 - 1 - G ((m + 1) % 5 + 5 * t)) &&& G ((m + 2) % 5 + 5 * t) = z1 at *
                      generalize M64 - 1 - G ((m + 1) % 5 + 5 * t) = z2 at *
                      generalize G ((m + 1) % 5 + 5 * t) = a1 at *
                      generalize G ((m + 2) % 5 + 5 * t) = a2 at *
                      generalize G (m + 5 * t) = a0 at *
                      generalize oT G (5 * m + t) (m + 5 * t) = old at *
                      generalize (m + 1) % 5 = p4 at *
                      generalize (m + 2) % 5 = p5 at *
                      have w1 : IntKind.i64.wrap (5 * (t : Int)) = 5 * (t : Int) := IntWalk.i64_in _ (by omega)
                      have w2 : IntKind.i64.wrap ((m : Int) + 5 * (t : Int)) = (m : Int) + 5 * (t : Int) := IntWalk.i64_in _ (by omega)
                      have w3 : IntKind.i64.wrap ((m : Int) + 1) = (m : Int) + 1 := IntWalk.i64_in _ (by omega)
                      have w4 : IntKind.i64.wrap ((m : Int) + 2) = (m : Int) + 2 := IntWalk.i64_in _ (by omega)
                      have w5 : IntKind.i64.wrap ((p4 : Int) + 5 * (t : Int)) = (p4 : Int) + 5 * (t : Int) := IntWalk.i64_in _ (by omega)
                      have w6 : IntKind.i64.wrap ((p5 : Int) + 5 * (t : Int)) = (p5 : Int) + 5 * (t : Int) := IntWalk.i64_in _ (by omega)
                      have n1 : ((m : Int) + 5 * (t : Int)).toNat = m + 5 * t := by omega
                      have n2 : ((p4 : Int) + 5 * (t : Int)).toNat = p4 + 5 * t := by omega
                      have n3 : ((p5 : Int) + 5 * (t : Int)).toNat = p5 + 5 * t := by omega
                      have b1 : (0 : Int) ≤ (m : Int) + 5 * (t : Int) ∧ (m : Int) + 5 * (t : Int) < 25 := by omega
                      have b2 : (0 : Int) ≤ (p4 : Int) + 5 * (t : Int) ∧ (p4 : Int) + 5 * (t : Int) < 25 := by omega
                      have b3 : (0 : Int) ≤ (p5 : Int) + 5 * (t : Int) ∧ (p5 : Int) + 5 * (t : Int) < 25 := by omega
                      go_wp2_with fail
                      go_still_tail 34, (by kernel_rfl)
                      clear n2 n3 b2 b3 w1 w2 w3 w4 w5 w6 q1 q2 r1 r2 c0 c1 c2 hq hr
                      go_wp2_with fail
                      clear hb0 hb1 n1 b1 d0
                      go_roundw
                      case rel => exact ⟨t + 1, by go_num, by omega, by rw [YY.out.1, YY.out.2.1, YY.out.2.2]; exact HE.out⟩
                      case measure => simp [intOf]; omega
                    · obtain rfl : t = 5 := by omega
                      have HE := Lib.hid (show NR 25 v2 (oT G (5 * (m + 1))) wr from hS)
                      clear hS hlt ht
                      go_wp2_with fail
                      clear hb0 hb1
                      go_roundw
                      case rel => exact ⟨m + 1, by go_num, by omega, HE.out⟩
                      case measure => simp [intOf]; omega
                · obtain rfl : m = 5 := by omega
                  have HQ := Lib.hid (hS.congr (g := bndN G) fun i hi => oT_end _ hi)
                  clear hS hlm hm
                  obtain ⟨v3, rfl⟩ : ∃ v3, v3 = wr := ⟨_, rfl⟩
                  have hJ : Below v0.heap.size v0 v3 := HJ.out.trans (HQ.out.below.mono HJ.out.size)
                  have c0 := HQ.out.cell (j := 0) (by omega)
                  have c1 := cell_later hJ HC.out.1
                  have e0 := free_of HQ.out.row 0
                  have x0 := xor64 (bndN_lt HG.out 0) HC.out.2
                  have hrow := (HQ.out.drew.set 0 (bndN G 0 ^^^ con) (g := stN f (k + 1)) (fun i _ => by rw [HX.out])).row
                  have HE := Lib.hid (show Fix w (some ⟨v2.heap.size, 0, none⟩) (stN f (k + 1)) w.heap.size g (v3.drew.setCell ⟨v2.heap.size, 0, none⟩ (.int .u64 (bndN G 0 ^^^ con : Nat))) ∧ w.heap.size ≤ v2.heap.size ∧ (v3.drew.setCell ⟨v2.heap.size, 0, none⟩ (.int .u64 (bndN G 0 ^^^ con : Nat))).heap[v2.heap.size]? = some (.cells (blk .u64 25 (stN f (k + 1))) 26 (0, 0)) from by
                    have h1 := (HF.out.later (hJ.drew.setCell (p := ⟨v2.heap.size, 0, none⟩) HJ.out.size (.int .u64 (bndN G 0 ^^^ con : Nat))))
                    have hle := Nat.le_trans HF.out.below.size HJ.out.size
                    refine ⟨⟨h1.below, fun _ => ⟨v2.heap.size, 0, rfl, fun i hi => ?_⟩, h1.rot, h1.con⟩, hle, hrow⟩
                    rw [Nat.zero_add]
                    exact (cell_of hrow i).trans (blk_at _ _ hi))
                  clear HQ HX HO HG HF HC HJ hJ hrow
                  generalize bndN G 0 ^^^ con = z at *
                  generalize bndN G 0 = y at *
                  have bk : (0 : Int) ≤ (k : Int) ∧ (k : Int) < 24 := by omega
                  go_wp2_with fail
                  go_still_tail 10, (by kernel_rfl)
                  go_wp2_with fail
                  clear hb0 c0 c1 e0 x0 bk
                  go_roundw
                  case rel => exact ⟨k + 1, _, _, by go_num, by omega, rfl, HE.out.1, fun _ => ⟨rfl, _, rfl, HE.out.2.1, HE.out.2.2⟩⟩
                  case measure => simp [intOf]; omega
    · obtain rfl : k = 24 := by omega
      obtain ⟨rfl, b, rfl, hb1, hb2⟩ := hrow (by omega)
      have HE := Lib.hid (And.intro hb1 (And.intro hb2 hS.below))
      clear hS hb1 hb2 hrow
      go_wp2_with fail
      go_ret
      exact ⟨b, rfl, HE.out.1, HE.out.2.1, HE.out.2.2⟩
end Go.Proofs.YtienelgkdhmelaaDoor
