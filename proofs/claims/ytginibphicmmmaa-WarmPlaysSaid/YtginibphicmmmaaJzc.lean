/- The reference's has. -/
import Derived.Test.YtginibphicmmmaaJzb
namespace Go.Proofs.Ytginibphicmmmaa
open Go.RowKit Go.Maps Go.Shelf Mp
section
variable {e : Nat} {rv : Value} {ts : List Value} {fx : List (Nat × Obj)} {M : List Cg} {W : World}
set_option maxRecDepth 100000 in
set_option maxHeartbeats 8000000 in
theorem rhas_c (h : RAt e rv ts fx M W) (hM : M.length < 1000000) (kind : Nat) (hk : kind < 10) (a : Nm) (k : Wq) :
    Calls Try.prog 49 #[ptr e, .int .i64 (kind : Nat), .string (str a), .agg (wqC k)] W fun r W' => r = .returned (.bool (M.any (Cg.is kind a k))) ∧ Below W.heap.size W W' := by
  obtain ⟨ra, rc, hrv⟩ := own_any h.row
  obtain ⟨nM, hnM⟩ : ∃ nM, nM = M.length := ⟨_, rfl⟩
  rw [← hnM] at hrv hM
  subst hrv
  have HH := Lib.hid (And.intro h (And.intro hnM (And.intro hM hk)))
  have hq := heap_alloc_new W (.cells (wqC k) 46 (0, 0))
  have hb0 : Below W.heap.size W (W.alloc (.cells (wqC k) 46 (0, 0))) := (Below.refl _ W).alloc (Nat.le_refl _) _
  have HB0 := Lib.hid (And.intro hb0 hq)
  clear h hnM hM hk hq hb0
  unfold ptr wqC at *
  go_enter Try.func49, Try.ntmps49
  go_wp2_with fail
  obtain ⟨q, hq⟩ : ∃ q, q = W.heap.size := ⟨_, rfl⟩
  have HQ := Lib.hid hq
  rw [← hq] at HB0 ⊢
  clear hq
  generalize World.alloc W _ = V0 at HB0 ⊢
  go_loopw [9] (fun iv wr => ∃ i : Nat, i ≤ nM ∧ iv = .int .i64 (i : Nat) ∧ (∀ j c, j < i → M[j]? = some c → c.is kind a k = false) ∧ Below V0.heap.size V0 wr) (fun iv _ => nM - (intOf iv).toNat)
  case atStart => exact ⟨0, Nat.zero_le _, rfl, fun _ _ h => absurd h (Nat.not_lt_zero _), Below.refl _ _⟩
  case round =>
    obtain ⟨i, hi, rfl, hno, hb⟩ := hrel
    have hB : Below W.heap.size W wr := (HQ.out ▸ HB0.out.1).trans (hb.mono (HQ.out ▸ HB0.out.1).size)
    have hR := (HH.out.1.ob.below hB).it
    have hbx := (hb.block q (lt_of HB0.out.2)).trans HB0.out.2
    have d0 := cell_of hR.cell 0
    simp only [List.getElem?_toArray, List.getElem?_cons_zero] at d0
    by_cases hlt : i < nM
    · obtain ⟨c, hc⟩ : ∃ c, M[i]? = some c := ⟨_, List.getElem?_eq_getElem (by rw [← HH.out.2.1]; exact hlt)⟩
      obtain ⟨g, cap, t, e1, _, _, hcell⟩ := hR.at hc
      injection e1 with e1 e2 e3
      subst e1 e3
      have x0 := hcell 0 (by omega)
      have x1 := hcell 1 (by omega)
      have x2 := hcell 2 (by omega)
      have x3 := hcell 3 (by omega)
      have x4 := hcell 4 (by omega)
      have x5 := hcell 5 (by omega)
      simp only [chE, List.getElem?_cons_zero, List.getElem?_cons_succ, Nat.add_zero] at x0 x1 x2 x3 x4 x5
      have y0 := cell_of hbx 0
      have y1 := cell_of hbx 1
      have y2 := cell_of hbx 2
      have y3 := cell_of hbx 3
      simp only [List.getElem?_toArray, List.getElem?_cons_zero, List.getElem?_cons_succ] at y0 y1 y2 y3
      have hli : (i : Int) < (nM : Int) := int_lt' hlt
      have hwi : wrap64 ((i : Int) + 1) = (i : Int) + 1 := wrap_big (Nat.lt_trans hlt (Nat.lt_trans HH.out.2.2.1 (by decide)))
      have hs1 := eql_str c.adr a
      have EQ := eq_wq c.key k
      unfold wqC at EQ
      have HX := Lib.hid (And.intro hno (And.intro hB (And.intro hc (And.intro hlt hb))))
      clear hno hB hc hlt hb hR hbx hcell e2 hi
      have x3' : wr.cell? ⟨g, i * 10 + 2 + 1, none⟩ = some (.int .u64 (c.key.b : Nat)) := x3
      have x4' : wr.cell? ⟨g, i * 10 + 2 + 2, none⟩ = some (.int .u64 (c.key.c : Nat)) := x4
      have x5' : wr.cell? ⟨g, i * 10 + 2 + 3, none⟩ = some (.int .u64 (c.key.d : Nat)) := x5
      by_cases ck : c.kind = kind
      · have hkk : (c.kind : Int) = (kind : Int) := by rw [ck]
        rw [hkk] at x0
        clear hkk
        by_cases ca : c.adr = a
        · rw [decide_eq_true ca] at hs1
          by_cases cq : c.key = k
          · rw [decide_eq_true cq] at EQ
            have HY := Lib.hid (And.intro ck (And.intro ca cq))
            clear ck ca cq
            go_wp2_with fail
            go_quiet (fail)
            go_wp2_with fail
            go_ret
            refine ⟨?_, HX.out.2.1.trans ((bel_drewN _ _).mono HX.out.2.1.size)⟩
            rw [show M.any (Cg.is kind a k) = true from List.any_eq_true.2 ⟨c, List.mem_of_getElem? HX.out.2.2.1, by simp [Cg.is, HY.out.1, HY.out.2.1, HY.out.2.2]⟩]
            rfl
          · rw [decide_eq_false cq] at EQ
            have HN := Lib.hid (show c.is kind a k = false by simp [Cg.is, cq])
            clear ck ca cq
            go_wp2_with fail
            go_quiet (fail)
            go_wp2_with fail
            go_roundw
            case rel => exact ⟨i + 1, HX.out.2.2.2.1, by go_num, no_more HX.out.1 HX.out.2.2.1 HN.out, HX.out.2.2.2.2.trans ((bel_drewN _ _).mono HX.out.2.2.2.2.size)⟩
            case measure => first | exact meas2 HX.out.2.2.2.1 | (rw [hwi]; exact meas2 HX.out.2.2.2.1)
        · rw [decide_eq_false ca] at hs1
          have HN := Lib.hid (show c.is kind a k = false by simp [Cg.is, ca])
          clear ck ca EQ
          go_wp2_with fail
          go_quiet (fail)
          go_wp2_with fail
          go_roundw
          case rel => exact ⟨i + 1, HX.out.2.2.2.1, by go_num, no_more HX.out.1 HX.out.2.2.1 HN.out, HX.out.2.2.2.2.trans ((bel_drewN _ _).mono HX.out.2.2.2.2.size)⟩
          case measure => first | exact meas2 HX.out.2.2.2.1 | (rw [hwi]; exact meas2 HX.out.2.2.2.1)
      · have hkk : ((c.kind : Int) == (kind : Int)) = false := by simp; omega
        have HN := Lib.hid (show c.is kind a k = false by simp [Cg.is, ck])
        clear ck EQ hs1
        go_wp2_with fail
        go_quiet (fail)
        go_wp2_with fail
        go_roundw
        case rel => exact ⟨i + 1, HX.out.2.2.2.1, by go_num, no_more HX.out.1 HX.out.2.2.1 HN.out, HX.out.2.2.2.2.trans ((bel_drewN _ _).mono HX.out.2.2.2.2.size)⟩
        case measure => first | exact meas2 HX.out.2.2.2.1 | (rw [hwi]; exact meas2 HX.out.2.2.2.1)
    · obtain rfl : i = nM := Nat.le_antisymm hi (Nat.le_of_not_lt hlt)
      have hni : ¬ ((i : Int) < (i : Int)) := Int.lt_irrefl _
      have HX := Lib.hid (And.intro hno hB)
      clear hno hB hb hR hbx hi hlt
      go_wp2_with fail
      go_ret
      refine ⟨?_, HX.out.2⟩
      rw [show M.any (Cg.is kind a k) = false from none_at (by rw [← HH.out.2.1]; exact HX.out.1)]
      rfl
end
end Go.Proofs.Ytginibphicmmmaa
