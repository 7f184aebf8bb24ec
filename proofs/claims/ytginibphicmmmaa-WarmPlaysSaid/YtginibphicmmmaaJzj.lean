/- The reference's Logs. -/
import Derived.Test.YtginibphicmmmaaJzi
namespace Go.Proofs.Ytginibphicmmmaa
open Go.RowKit Go.Maps Go.Shelf Mp
def Cg.lgs : Cg → List LogP
  | .log l => [l]
  | _ => []
theorem logs_step {M : List Cg} {i : Nat} {c : Cg} (h : M[i]? = some c) : logsOf (M.take (i + 1)).reverse = logsOf (M.take i).reverse ++ c.lgs := by
  rw [take_snoc h, List.reverse_append]
  cases c <;> first | rfl | exact (List.append_nil _).symm
theorem lgs_log {c : Cg} (h : c.kind = 5) : c.lgs = [c.lg] := by cases c <;> first | rfl | cases h
theorem lgs_none {c : Cg} (h : c.kind ≠ 5) : c.lgs = [] := by cases c <;> first | rfl | exact absurd rfl h
theorem lgs_few : ∀ M : List Cg, (logsOf M).length ≤ M.length
  | [] => Nat.le_refl _
  | .log l :: M => by have := lgs_few M; simp [logsOf]; omega
  | .addr _ :: M => Nat.le_succ_of_le (lgs_few M)
  | .slot _ _ :: M => Nat.le_succ_of_le (lgs_few M)
  | .made _ :: M => Nat.le_succ_of_le (lgs_few M)
  | .refund _ :: M => Nat.le_succ_of_le (lgs_few M)
  | .gone _ :: M => Nat.le_succ_of_le (lgs_few M)
theorem lgs_max {M : List Cg} {i n : Nat} (h : i < n) (hn : n < 1000000) : (logsOf (M.take i).reverse).length + 1 ≤ maxLen ∧ ((logsOf (M.take i).reverse).length + 1) * 56 ≤ 140737488355328 := by
  have h1 := lgs_few (M.take i).reverse
  rw [List.length_reverse, List.length_take] at h1
  unfold maxLen
  omega
theorem top_one {fx : List (Nat × Obj)} {t : Value} {ws : List Wq} (h : TopAt fx t ws) : t.oneCell' = true := by
  rcases h with ⟨_, rfl⟩ | ⟨q, cap, cur, rfl, _⟩ <;> rfl
theorem logE_one {fx : List (Nat × Obj)} {t : Value} {l : LogP} (h : TopAt fx t l.tops) : ∀ u ∈ logE l t, u.oneCell' = true := by
  intro u hu
  simp only [logE, List.mem_cons, List.not_mem_nil, or_false] at hu
  rcases hu with rfl | rfl | rfl
  · rfl
  · exact top_one h
  · rfl
/-- What the loop of Logs keeps. -/
structure Lt (fx : List (Nat × Obj)) (W : World) (ls : List LogP) (v : Value) (ts : List Value) (V : World) : Prop where
  it : Wt ls v ts fx V
  own : ∀ k, v.ownBlock = some k → W.heap.size ≤ k
  below : Below W.heap.size W V
theorem Lt.add {fx : List (Nat × Obj)} {W V0 V2 V3 : World} {ls : List LogP} {v t : Value} {ts : List Value} {l : LogP} {g cap : Nat} (h : Lt fx W ls v ts V0) (hfx : ∀ p ∈ fx, p.1 < W.heap.size) (b : Below V0.heap.size V0 V2) (ht : TopAt fx t l.tops)
    (hrow : V3.ownsRow 0 33 3 (.slice (some ⟨g, 0, none⟩) (ls.length + 1) cap) (ls.length + 1) (logCells ls ts ++ logE l t)) (gr : V2.grownBy V3 v.ownBlock) (hg : v.ownBlock = some g ∨ g = V2.heap.size) :
    Lt fx W (ls ++ [l]) (.slice (some ⟨g, 0, none⟩) (ls.length + 1) cap) (ts ++ [t]) V3 := by
  have b2 : Below W.heap.size W V2 := h.below.trans (b.mono h.below.size)
  refine ⟨⟨by rw [logCells_snoc h.it.tops.len, List.length_append]; exact hrow, Tops.snoc ht h.it.tops, fun p hp => ?_⟩, fun k hk => ?_, ⟨gr.os.trans b2.os, gr.tape.trans b2.tape, gr.output.trans b2.output, Nat.le_trans b2.size gr.size, fun k hk => ?_⟩⟩
  · have h1 := h.it.fix p hp
    have h2 := (b.block _ (lt_of h1)).trans h1
    exact (gr.block _ (lt_of h2) fun e1 => by have := h.own _ e1.symm; have := hfx p hp; omega).trans h2
  · have hk : g = k := by cases hk; rfl
    subst hk
    rcases hg with e1 | e1
    · exact h.own _ e1
    · rw [e1]; exact b2.size
  · exact (gr.block k (Nat.lt_of_lt_of_le hk b2.size) fun e1 => by have := h.own _ e1.symm; omega).trans (b2.block k hk)
section
variable {e : Nat} {rv : Value} {ts : List Value} {fx : List (Nat × Obj)} {M : List Cg} {W : World}
theorem Lt.start (h : RAt e rv ts fx M W) : Lt fx W [] (.slice none 0 0) [] W := ⟨⟨World.ownsRow_nil _ _ _ _, trivial, fun p hp => (h.fix p hp).1⟩, fun _ hk => (by cases hk), Below.refl _ _⟩
set_option maxRecDepth 100000 in
set_option maxHeartbeats 8000000 in
theorem rlogs_c (h : RAt e rv ts fx M W) (hM : M.length < 1000000) : Calls Try.prog 15 #[ptr e] W fun r W' => ∃ pa c, r = .returned (.slice pa (logsOf M.reverse).length c) ∧ LogsAt W' (.slice pa (logsOf M.reverse).length c) (logsOf M.reverse) ∧ Below W.heap.size W W' := by
  obtain ⟨ra, rc, hrv⟩ := own_any h.row
  obtain ⟨nM, hnM⟩ : ∃ nM, nM = M.length := ⟨_, rfl⟩
  rw [← hnM] at hrv hM
  subst hrv
  have HF := Lib.hid (fun (p : Nat × Obj) (hp : p ∈ fx) => lt_of (h.fix p hp).1)
  have HH := Lib.hid (And.intro h (And.intro hnM hM))
  obtain ⟨P, hP⟩ : ∃ P : Ending → World → Prop, P = fun r W' => ∃ pa c, r = .returned (.slice pa (logsOf M.reverse).length c) ∧ LogsAt W' (.slice pa (logsOf M.reverse).length c) (logsOf M.reverse) ∧ Below W.heap.size W W' := ⟨_, rfl⟩
  rw [← hP]
  have HP := Lib.hid hP
  clear h hnM hM hP
  obtain ⟨i0, hi0, hz0, hz1, hz2⟩ := info_parts infoLog
  have HI := Lib.hid (And.intro hi0 (And.intro hz0 (And.intro hz1 hz2)))
  clear hi0 hz0 hz1 hz2
  unfold ptr
  go_enter Try.func15, Try.ntmps15
  go_wp2_with fail
  go_loopw [3, 4] (fun ov iv wr => ∃ i : Nat, i ≤ nM ∧ iv = .int .i64 (i : Nat) ∧ ∃ us, Lt fx W (logsOf (M.take i).reverse) ov us wr) (fun _ iv _ => nM - (intOf iv).toNat)
  case atStart => exact ⟨0, Nat.zero_le _, rfl, [], Lt.start HH.out.1⟩
  case round =>
    obtain ⟨i, hi, rfl, us, hL⟩ := hrel
    have hR := (HH.out.1.ob.below hL.below).it
    have d0 := cell_of hR.cell 0
    simp only [List.getElem?_toArray, List.getElem?_cons_zero] at d0
    obtain ⟨av, cv, hov⟩ := own_any hL.it.row
    obtain ⟨nl, hnl⟩ : ∃ nl, nl = (logsOf (M.take i).reverse).length := ⟨_, rfl⟩
    rw [← hnl] at hov
    subst hov
    have HNL := Lib.hid hnl
    clear hnl
    by_cases hlt : i < nM
    · obtain ⟨c, hc⟩ : ∃ c, M[i]? = some c := ⟨_, List.getElem?_eq_getElem (by rw [← HH.out.2.1]; exact hlt)⟩
      obtain ⟨g, cap, t, e1, _, htop, hcell⟩ := hR.at hc
      injection e1 with e1 e2 e3
      subst e1 e3
      have x0 := hcell 0 (by omega)
      have x7 := hcell 7 (by omega)
      have x8 := hcell 8 (by omega)
      have x9 := hcell 9 (by omega)
      simp only [chE, List.getElem?_cons_zero, List.getElem?_cons_succ, Nat.add_zero] at x0 x7 x8 x9
      have x8' : wr.cell? ⟨g, i * 10 + 7 + 1, none⟩ = some t := x8
      have x9' : wr.cell? ⟨g, i * 10 + 7 + 2, none⟩ = some (.string (str c.lg.data)) := x9
      have hli : (i : Int) < (nM : Int) := int_lt' hlt
      have hwi : wrap64 ((i : Int) + 1) = (i : Int) + 1 := wrap_big (Nat.lt_trans hlt (Nat.lt_trans HH.out.2.2 (by decide)))
      have ht := logs_step hc
      have hm := lgs_max (M := M) hlt HH.out.2.2
      have HX := Lib.hid (And.intro hlt (And.intro hL (And.intro ht (And.intro htop hm))))
      clear hL hc hlt hR hcell e2 hi ht htop hm
      by_cases ck : c.kind = 5
      · have hkk : (c.kind : Int) = 5 := by omega
        rw [hkk] at x0
        have HK := Lib.hid (lgs_log ck)
        clear ck hkk
        have hrow := own_keep (w' := wr.alloc (.cells #[.string (str c.lg.addr), t, .string (str c.lg.data)] 33 (0, 0))) HX.out.2.1.it.row fun k hk => (below_new wr _).block k (World.ownsRow.lt HX.out.2.1.it.row k hk).2
        have HR2 := Lib.hid hrow
        clear hrow
        go_wp2_with (at_builtin; refine wpList_append_lies _ (by rfl) _ _ 39 (by rfl) 0 33 i0 _ 3 56 Try.underlying39 HI.out.1 HI.out.2.1 HI.out.2.2.1 HI.out.2.2.2 rfl (by omega) (.slice av nl cv) (logsOf (M.take i).reverse).length (logCells (logsOf (M.take i).reverse) us) (by rfl) HR2.out ⟨wr.heap.size, 0, none⟩ 1 1 (logE c.lg t) (by rfl) rfl (cells3 (heap_alloc_new wr _)) (logE_one HX.out.2.2.2.1) (by omega) HX.out.2.2.2.2.1 HX.out.2.2.2.2.2 (Nat.zero_le _) _ rfl ?_; intro g2 cap2 V2 r2 g2' l2 m2; have HG := Lib.hid (HX.out.2.1.add (l := c.lg) (t := t) HF.out (below_new wr _) HX.out.2.2.2.1 r2 g2' l2); clear r2 g2' l2 m2 x0 x7 x8 x9 x8' x9' d0)
        go_roundw
        case rel => exact ⟨i + 1, HX.out.1, by go_num, us ++ [t], by rw [HX.out.2.2.1, HK.out]; exact HG.out⟩
        case measure => first | exact meas2 HX.out.1 | (rw [hwi]; exact meas2 HX.out.1)
      · have hkk : ((c.kind : Int) == 5) = false := by simp; omega
        have HK := Lib.hid (lgs_none ck)
        clear ck
        go_wp2_with fail
        go_roundw
        case rel => exact ⟨i + 1, HX.out.1, by go_num, us, by rw [HX.out.2.2.1, HK.out, List.append_nil]; exact HX.out.2.1⟩
        case measure => first | exact meas2 HX.out.1 | (rw [hwi]; exact meas2 HX.out.1)
    · obtain rfl : i = nM := Nat.le_antisymm hi (Nat.le_of_not_lt hlt)
      have hni : ¬ ((i : Int) < (i : Int)) := Int.lt_irrefl _
      have HX := Lib.hid hL
      clear hL hR hi hlt
      go_wp2_with fail
      have ha := HX.out.it.logsAt
      have hb := HX.out.below
      have hN := HNL.out
      rw [show M.take i = M by rw [HH.out.2.1]; exact List.take_length] at ha hN
      rw [HP.out]
      rw [hN] at ha ⊢
      exact ⟨av, cv, rfl, ha, hb⟩
end
end Go.Proofs.Ytginibphicmmmaa
