/- Logs: the walk. -/
import Derived.Test.YtginibphicmmmaaJu
namespace Go.Proofs.Ytginibphicmmmaa
open Go.RowKit Go.Maps Go.Shelf Mp

theorem make_logs (k : Nat) (hk : k < 1000000000) (W : World) : (Instr.makeSlice 39 (.int .i64 (k : Nat)) (.int .i64 (k : Nat))).run Try.prog W = .ok (.slice (some ⟨W.heap.size, 0, none⟩) k k) (W.alloc (.cells (madeCells #[.string ⟨#[]⟩, .slice none 0 0, .string ⟨#[]⟩] (k * 3)) 33)) := by
  obtain ⟨i0, hi, hz0, hz1, hz2⟩ := info_parts infoLog
  have h := run_make (P := Try.prog) W 39 33 i0 _ Try.underlying39 hi hz0 .i64 .i64 (k : Int) (k : Int) (by omega) (Int.le_refl _) (by rw [hz2]; omega) (by omega)
  rw [hz1] at h
  simp only [Int.toNat_natCast] at h
  exact h
theorem meas2 {i N : Nat} (h : i < N) : N - (intOf (.int .i64 ((i : Int) + 1))).toNat < N - (intOf (.int .i64 (i : Int))).toNat := by simp [intOf]; omega
theorem int_lt' {i k : Nat} (h : i < k) : (i : Int) < (k : Int) := by omega
theorem wrap_big {i : Nat} (h : i < 1000000000) : wrap64 ((i : Int) + 1) = (i : Int) + 1 := IntWalk.wrap64_in _ ⟨by omega, by omega⟩
theorem cell_lt {W : World} {b j : Nat} {v : Value} (h : W.cell? ⟨b, j, none⟩ = some v) : b < W.heap.size := by
  rcases Nat.lt_or_ge b W.heap.size with h' | h'
  · exact h'
  · simp [World.cell?, Array.getElem?_eq_none h'] at h
set_option maxRecDepth 100000 in
set_option maxHeartbeats 8000000 in
theorem logs_c {x : Sx} {b n : Nat} {L : List Cg} {W : World} (h : WAt x b L n W) (hn : n < 1000000000) (h32 : ∀ l ∈ logsOf L, l.tops.length * 32 ≤ 140737488355328) :
    Calls Try.prog 14 #[ptr b] W fun e W' => ∃ v, e = .returned v ∧ LogsAt W' v (logsOf L) ∧ Below W.heap.size W W' := by
  have d0 := h.cells.1.2.2.2.2.1
  obtain ⟨a0, c0, hlv⟩ := own_any h.lrow
  rw [hlv] at d0
  have hk : (logsOf L).length < 1000000000 := Nat.lt_of_le_of_lt (logs_le L) (Nat.lt_of_le_of_lt h.few hn)
  have hmk := make_logs _ hk
  have hLA := h.logsAt
  rw [hlv] at hLA
  generalize logsOf L = ls at d0 hk hmk hLA h32 hlv ⊢
  obtain ⟨k, hkk⟩ : ∃ k, k = ls.length := ⟨_, rfl⟩
  rw [← hkk] at d0 hmk hk hLA
  obtain ⟨Z, hZ⟩ : ∃ Z, Z = madeCells #[Value.string ⟨#[]⟩, .slice none 0 0, .string ⟨#[]⟩] (k * 3) := ⟨_, rfl⟩
  rw [← hZ] at hmk
  have hki : ¬ ((k : Int) < 0) := by omega
  replace hLA : ∀ i l, ls[i]? = some l → ∃ g o tv, a0 = some ⟨g, o, none⟩ ∧ g < W.heap.size ∧ W.cell? ⟨g, o + i * 3, none⟩ = some (.string (str l.addr)) ∧ W.cell? ⟨g, o + (i * 3 + 1), none⟩ = some tv ∧ W.cell? ⟨g, o + (i * 3 + 2), none⟩ = some (.string (str l.data)) ∧ WordsAt W tv l.tops := by
    obtain ⟨pa, c9, e9, hall⟩ := hLA
    injection e9 with e1 e2 e3
    rw [e1]; exact hall
  have HH := Lib.hid (And.intro hLA (And.intro hkk (And.intro hZ (And.intro hk h32))))
  unfold ptr at *
  clear h hlv hLA hkk hZ hk h32 hn
  go_enter Try.func14, Try.ntmps14
  go_upto_region 2 with fail
  have HO := Lib.hid (show OutI ls W.heap.size 0 W (W.alloc (.cells Z 33)) from ⟨(Below.refl _ W).alloc (Nat.le_refl _) _, ⟨Z, heap_alloc_new _ _, by rw [HH.out.2.2.1, size_madeCells, HH.out.2.1], fun _ _ h => by omega⟩, Nat.le_refl _⟩)
  have d1 : (W.alloc (.cells Z 33)).cell? ⟨b, 4, none⟩ = some (.slice a0 k c0) := (World.cell?_of_block (((Below.refl _ W).alloc (Nat.le_refl _) _).block b (cell_lt d0))).trans d0
  obtain ⟨g0, hg0⟩ : ∃ g0, g0 = W.heap.size := ⟨_, rfl⟩
  have HG := Lib.hid hg0
  rw [← hg0] at HO ⊢
  generalize World.alloc _ _ = V1 at HO d1 ⊢
  clear hg0 hmk d0 hki
  go_wp2_with fail
  go_loopw [17] (fun iv wr => ∃ i : Nat, i ≤ k ∧ iv = .int .i64 (i : Nat) ∧ OutI ls g0 i W wr) (fun iv _ => k - (intOf iv).toNat)
  case atStart => exact ⟨0, Nat.zero_le _, rfl, HO.out⟩
  case round =>
    obtain ⟨i, hi, rfl, hO⟩ := hrel
    by_cases hlt : i < k
    · obtain ⟨l, hl⟩ : ∃ l, ls[i]? = some l := ⟨_, List.getElem?_eq_getElem (by have := HH.out.2.1; omega)⟩
      obtain ⟨g, o, tv, ha, hg, k0, k1, k2, hwd⟩ := HH.out.1 i l hl
      subst ha
      have hB := hO.below
      have w0 : wr.cell? ⟨g, o + i * 3, none⟩ = some (.string (str l.addr)) := (World.cell?_of_block (hB.block g hg)).trans k0
      have w1 : wr.cell? ⟨g, o + i * 3 + 1, none⟩ = some tv := by rw [Nat.add_assoc]; exact (World.cell?_of_block (hB.block g hg)).trans k1
      have w2 : wr.cell? ⟨g, o + i * 3 + 2, none⟩ = some (.string (str l.data)) := by rw [Nat.add_assoc]; exact (World.cell?_of_block (hB.block g hg)).trans k2
      have hwd2 : WordsAt wr tv l.tops := hwd.kept hB.size fun hn9 j hj => by
        obtain ⟨pa2, c2, e2, _, h2⟩ := hwd
        subst e2
        cases pa2 with
        | none => cases hj
        | some ad => cases hj; exact hB.block _ ((h2 ad rfl).1 hn9)
      have hm32 := HH.out.2.2.2.2 l (List.mem_of_getElem? hl)
      have hli : (i : Int) < (k : Int) := int_lt' hlt
      have hwi : wrap64 ((i : Int) + 1) = (i : Int) + 1 := wrap_big (Nat.lt_trans hlt HH.out.2.2.2.1)
      obtain ⟨ta, tc, htv⟩ : ∃ ta tc, tv = .slice ta l.tops.length tc := by obtain ⟨a, c, e, _⟩ := hwd; exact ⟨a, c, e⟩
      obtain ⟨nt, hnt⟩ : ∃ nt, nt = l.tops.length := ⟨_, rfl⟩
      rw [← hnt] at htv
      subst htv
      have HX := Lib.hid (And.intro hO (And.intro hl (And.intro hwd2 (And.intro hm32 (And.intro hnt hlt)))))
      clear hO hl hwd hwd2 hm32 hnt hlt k0 k1 k2 hB hi d1
      go_upto_region 5 with fail
      have hb2 : Below wr.heap.size wr (wr.alloc (.cells #[.string (str l.addr), .slice ta nt tc, .string (str l.data)] 33)) := (Below.refl _ wr).alloc (Nat.le_refl _) _
      have hn2 := heap_alloc_new wr (.cells #[.string (str l.addr), .slice ta nt tc, .string (str l.data)] 33)
      have HO2 := Lib.hid (HX.out.1.call hb2)
      have CP := Lib.hid (copied_c (HX.out.2.2.1.below hb2) HX.out.2.2.2.1)
      have s0 := cell_of hn2 0
      have s1 := cell_of hn2 1
      have s2 := cell_of hn2 2
      simp only [List.getElem?_toArray, List.getElem?_cons_zero, List.getElem?_cons_succ] at s0 s1 s2
      obtain ⟨q, hq⟩ : ∃ q, q = wr.heap.size := ⟨_, rfl⟩
      rw [← hq] at s0 s1 s2 ⊢
      unfold logV at CP
      clear hn2 hb2 w0 w1 w2 hq
      generalize World.alloc wr _ = V2 at HO2 CP s0 s1 s2 ⊢
      go_wp2_with fail
      refine CP.out.mono ?_
      rintro e V3 ⟨t9, rfl, hb3, hr3⟩
      rw [← HX.out.2.2.2.2.1] at hr3
      obtain ⟨ua, uc, hu⟩ := own_any hr3
      subst hu
      have hw3 : WordsAt V3 (.slice ua nt uc) l.tops := row_words (B := V2.heap.size) (by rw [← HX.out.2.2.2.2.1]; exact hr3)
      have hne3 : (Value.slice ua nt uc).ownBlock ≠ some g0 := fun e => by
        have h1 := (World.ownsRow.lt hr3 g0 e).1
        obtain ⟨cur, h2, _⟩ := HO2.out.row
        have := lt_of h2
        omega
      have HO3 := Lib.hid (HO2.out.call hb3)
      have HW3 := Lib.hid (And.intro hw3 hne3)
      obtain ⟨cur, hcur, hsz, _⟩ := HO3.out.row
      have hil : i * 3 + 2 < cur.size := by have h1 := HX.out.2.2.2.2.2; have h2 := HH.out.2.1; omega
      have p0 := cell_of hcur (i * 3)
      have p1 := cell_of hcur (i * 3 + 1)
      have p2 := cell_of hcur (i * 3 + 2)
      have r0 := free_of hcur (i * 3)
      have r1 := free_of hcur (i * 3 + 1)
      have r2 := free_of hcur (i * 3 + 2)
      rw [Array.getElem?_eq_getElem (by omega)] at p0 p1 p2
      generalize cur[i * 3] = v0 at p0
      generalize cur[i * 3 + 1] = v1 at p1
      generalize cur[i * 3 + 2] = v2 at p2
      clear hb3 hr3 hw3 hne3 hcur hsz hil CP s0 s1 s2 HO2
      go_wp2_with fail
      go_roundw
      case rel => exact ⟨i + 1, HX.out.2.2.2.2.2, by go_num, HO3.out.fill HX.out.2.1 HW3.out.1 HW3.out.2⟩
      case measure => rw [hwi]; exact meas2 HX.out.2.2.2.2.2
    · obtain rfl : i = k := Nat.le_antisymm hi (Nat.le_of_not_lt hlt)
      have hni : ¬ ((i : Int) < (i : Int)) := Int.lt_irrefl _
      have HX := Lib.hid hO
      clear hO hi hlt d1
      go_wp2_with fail
      go_ret
      have e := HH.out.2.1
      subst e
      exact ⟨_, rfl, HX.out.done, HX.out.below⟩
end Go.Proofs.Ytginibphicmmmaa
