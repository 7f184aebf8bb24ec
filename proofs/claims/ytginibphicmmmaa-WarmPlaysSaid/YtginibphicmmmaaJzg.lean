/- The reference's Total. -/
import Derived.Test.YtginibphicmmmaaJzf
import Derived.Test.YtginibphicmmmaaJza
namespace Go.Proofs.Ytginibphicmmmaa
open Go.RowKit Go.Maps Go.Shelf Mp
theorem w64_tot : ∀ L : List Cg, w64 (tot L) = tot L
  | [] => by show wrap64 0 = 0; unfold wrap64; omega
  | .refund n :: L => by show wrap64 (wrap64 _) = wrap64 _; unfold wrap64; omega
  | .addr _ :: L => w64_tot L
  | .slot _ _ :: L => w64_tot L
  | .made _ :: L => w64_tot L
  | .log _ :: L => w64_tot L
  | .gone _ :: L => w64_tot L
theorem tot_step {M : List Cg} {i : Nat} {c : Cg} (h : M[i]? = some c) : tot (M.take (i + 1)).reverse = wrap64 (tot (M.take i).reverse + c.num) := by
  rw [take_snoc h, List.reverse_append]
  cases c <;> first | rfl | (show tot _ = wrap64 (_ + 0); rw [Int.add_zero]; exact (w64_tot _).symm)
section
variable {e : Nat} {rv : Value} {ts : List Value} {fx : List (Nat × Obj)} {M : List Cg} {W : World}
set_option maxRecDepth 100000 in
set_option maxHeartbeats 8000000 in
theorem rtotal_c (h : RAt e rv ts fx M W) (hM : M.length < 1000000) : Calls Try.prog 17 #[ptr e] W fun r W' => r = .returned (.int .i64 (tot M.reverse)) ∧ Below W.heap.size W W' := by
  obtain ⟨ra, rc, hrv⟩ := own_any h.row
  obtain ⟨nM, hnM⟩ : ∃ nM, nM = M.length := ⟨_, rfl⟩
  rw [← hnM] at hrv hM
  subst hrv
  have HH := Lib.hid (And.intro h (And.intro hnM hM))
  clear h hnM hM
  unfold ptr
  go_enter Try.func17, Try.ntmps17
  go_wp2_with fail
  go_loopw [3, 4] (fun nv iv wr => ∃ i : Nat, i ≤ nM ∧ iv = .int .i64 (i : Nat) ∧ nv = .int .i64 (tot (M.take i).reverse) ∧ Below W.heap.size W wr) (fun _ iv _ => nM - (intOf iv).toNat)
  case atStart => exact ⟨0, Nat.zero_le _, rfl, rfl, Below.refl _ _⟩
  case round =>
    obtain ⟨i, hi, rfl, rfl, hb⟩ := hrel
    have hR := (HH.out.1.ob.below hb).it
    have d0 := cell_of hR.cell 0
    simp only [List.getElem?_toArray, List.getElem?_cons_zero] at d0
    by_cases hlt : i < nM
    · obtain ⟨c, hc⟩ : ∃ c, M[i]? = some c := ⟨_, List.getElem?_eq_getElem (by rw [← HH.out.2.1]; exact hlt)⟩
      obtain ⟨g, cap, t, e1, _, _, hcell⟩ := hR.at hc
      injection e1 with e1 e2 e3
      subst e1 e3
      have x6 := hcell 6 (by omega)
      simp only [chE, List.getElem?_cons_zero, List.getElem?_cons_succ] at x6
      have hli : (i : Int) < (nM : Int) := int_lt' hlt
      have hwi : wrap64 ((i : Int) + 1) = (i : Int) + 1 := wrap_big (Nat.lt_trans hlt (Nat.lt_trans HH.out.2.2 (by decide)))
      have ht := tot_step hc
      have HX := Lib.hid (And.intro hlt (And.intro hb ht))
      clear hb hc hlt hR hcell e2 hi ht
      go_wp2_with fail
      go_roundw
      case rel => exact ⟨i + 1, HX.out.1, by go_num, by rw [HX.out.2.2], HX.out.2.1⟩
      case measure => first | exact meas2 HX.out.1 | (rw [hwi]; exact meas2 HX.out.1)
    · obtain rfl : i = nM := Nat.le_antisymm hi (Nat.le_of_not_lt hlt)
      have hni : ¬ ((i : Int) < (i : Int)) := Int.lt_irrefl _
      have HX := Lib.hid hb
      clear hb hR hi hlt
      go_wp2_with fail
      go_ret
      refine ⟨?_, HX.out⟩
      rw [show M.take i = M by rw [HH.out.2.1]; exact List.take_length]
      rfl
end
end Go.Proofs.Ytginibphicmmmaa
