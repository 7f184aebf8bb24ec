/- The contract of word.down, whatever closure it is handed. -/
import Derived.Test.YthbfhfgmanafpaaWordUp
namespace Go.Proofs.Ythbfhfgmanafpaa
open Go.RowKit

/-- What holds at the head of a round of 'down'. -/
def DownRel (may : Nat → Prop) (S : Nat → List Nat → World → Prop) (w : World) (k : Nat) (wr : World) : Prop :=
  ∃ ls : List Nat, ls.length = k ∧ k ≤ 4 ∧ S k ls wr ∧ Only may w.heap.size w wr ∧ wr.heap[w.heap.size]? = some (.cells (four 0 0 0 0) 45 (0, 0)) ∧
    wr.heap[w.heap.size + 1]? = some (.cells (four (ls.getD 3 0) (ls.getD 2 0) (ls.getD 1 0) (ls.getD 0 0)) 45 (0, 0))

theorem DownRel.start {may : Nat → Prop} {S : Nat → List Nat → World → Prop} {w : World}
    (hS : ∀ k ls w1 w2, Below w.heap.size w1 w2 → S k ls w1 → S k ls w2) (h0 : S 0 [] w) :
    DownRel may S w 0 ((w.alloc (.cells (four 0 0 0 0) 45 (0, 0))).alloc (.cells (four 0 0 0 0) 45 (0, 0))) := by
  refine ⟨[], rfl, by omega, hS _ _ _ _ (((Below.refl _ _).alloc (Nat.le_refl _) _).alloc (by simp) _) h0, ((Only.refl _ _ _).alloc (Nat.le_refl _) _).alloc (by simp) _, heap_alloc2_old _ _ _, heap_alloc2_new _ _ _⟩

theorem DownRel.step {may : Nat → Prop} {S : Nat → List Nat → World → Prop} {w : World} (hmay : ∀ k, may k → k < w.heap.size)
    (hS : ∀ k ls w1 w2, Below w.heap.size w1 w2 → S k ls w1 → S k ls w2) (k j r : Nat) (ls : List Nat) (wr w' : World) (hk : j + k = 3) (hl : ls.length = k)
    (hO : Only may w.heap.size w wr)
    (hb0 : wr.heap[w.heap.size]? = some (.cells (four 0 0 0 0) 45 (0, 0)))
    (hb1 : wr.heap[w.heap.size + 1]? = some (.cells (four (ls.getD 3 0) (ls.getD 2 0) (ls.getD 1 0) (ls.getD 0 0)) 45 (0, 0)))
    (hS' : S (k+1) (ls ++ [r]) w') (hO' : Only may wr.heap.size wr w') :
    (w'.cell? ⟨w.heap.size + 1, j, none⟩ = some (.int .u64 0) ∧ w'.frozen? ⟨w.heap.size + 1, j, none⟩ = false) ∧
      DownRel may S w (k + 1) (w'.setCell ⟨w.heap.size + 1, j, none⟩ (.int .u64 (r : Int))) := by
  have hz := hO.size
  have l1 := lt_of hb1
  have e0 : w'.heap[w.heap.size]? = _ := (hO'.block _ (by omega) (fun h => by have := hmay _ h; omega)).trans hb0
  have e1 : w'.heap[w.heap.size + 1]? = _ := (hO'.block _ (by omega) (fun h => by have := hmay _ h; omega)).trans hb1
  refine ⟨⟨?_, free_of e1 j⟩, ls ++ [r], by simp [hl], by omega, hS _ _ _ _ ((Below.refl _ _).setCell (by simp) _) hS', ?_, ?_, ?_⟩
  · rw [cell_of e1 j]
    match ls, hl with
    | [], rfl => obtain rfl : j = 3 := hk; simp [four]
    | [_], rfl => obtain rfl : j = 2 := by simpa using hk
                  simp [four]
    | [_, _], rfl => obtain rfl : j = 1 := by simpa using hk
                     simp [four]
    | [_, _, _], rfl => obtain rfl : j = 0 := by simpa using hk
                        simp [four]
    | _ :: _ :: _ :: _ :: r, rfl => exfalso; simp at hk; omega
  · exact (hO.trans (hO'.mono hz (fun _ _ h => h))).setCell (.inl (by simp)) _
  · rw [heap_setCell_other _ _ _ _ (by simp)]; exact e0
  · rw [heap_setCell_same _ _ _ _ _ _ e1]
    match ls, hl with
    | [], rfl => obtain rfl : j = 3 := hk; simp [four]
    | [_], rfl => obtain rfl : j = 2 := by simpa using hk
                  simp [four]
    | [_, _], rfl => obtain rfl : j = 1 := by simpa using hk
                     simp [four]
    | [_, _, _], rfl => obtain rfl : j = 0 := by simpa using hk
                        simp [four]
    | _ :: _ :: _ :: _ :: r, rfl => exfalso; simp at hk; omega

set_option maxRecDepth 100000 in
set_option maxHeartbeats 400000 in
theorem down_any (f : FuncId) (caps : Array Value) (may : Nat → Prop) (S : Nat → List Nat → World → Prop) (w : World)
    (hmay : ∀ k, may k → k < w.heap.size)
    (hf : ∀ (i : Int) (w : World), (callFunc f (#[.int .i64 i] ++ caps)).run Try.prog w = .ok (.enter f (#[.int .i64 i] ++ caps)) w)
    (hS : ∀ k ls w1 w2, Below w.heap.size w1 w2 → S k ls w1 → S k ls w2)
    (h0 : S 0 [] w)
    (hcall : ∀ k j ls wr, j + k = 3 → ls.length = k → w.heap.size ≤ wr.heap.size → S k ls wr → Calls Try.prog f (#[.int .i64 (j : Nat)] ++ caps) wr fun e w' =>
      ∃ r : Nat, e = .returned (.int .u64 r) ∧ S (k+1) (ls ++ [r]) w' ∧ Only may wr.heap.size wr w') :
    Calls Try.prog 81 #[.func (.func f) #[] caps] w fun e w' =>
      ∃ r0 r1 r2 r3 : Nat, e = .returned (.agg #[.int .u64 r3, .int .u64 r2, .int .u64 r1, .int .u64 r0]) ∧ S 4 [r0, r1, r2, r3] w' ∧ Only may w.heap.size w w' := by
  have Hcall := Lib.hid hcall; clear hcall
  have Hst := Lib.hid (DownRel.start (may := may) hS h0); clear h0
  have Hstep := Lib.hid (DownRel.step hmay hS)
  have Hstab := Lib.hid hS; clear hS
  have Hmay := Lib.hid hmay; clear hmay
  go_enter Try.func81, Try.ntmps81
  go_wp2_with fail
  go_loopw [5] (fun b wr => ∃ k : Nat, b = .int .i64 k ∧ DownRel may S w k wr) (fun b w => 4 - (intOf b).toNat)
  case atStart => exact ⟨0, rfl, Hst.out⟩
  case round => 
    obtain ⟨k, rfl, ls, hl, hk4, hs, hO, hb0, hb1⟩ := hrel
    by_cases hk : k < 4
    · obtain ⟨j, hj⟩ : ∃ j : Nat, j + k = 3 := ⟨3 - k, by omega⟩
      have hj3 : (3 : Int) - (k : Int) = (j : Int) := by omega
      have hj4 : (j : Int) < 4 := by omega
      have Hj := Lib.hid hj; clear hj
      have Hl := Lib.hid hl; clear hl
      have Hb0 := Lib.hid hb0; clear hb0
      have Hb1 := Lib.hid hb1; clear hb1
      go_wp2_with fail
      refine (Hcall.out k j ls wr Hj.out Hl.out hO.size hs).mono ?_
      rintro e w1 ⟨r, rfl, hs1, hO1⟩
      have hx := Hstep.out k j r ls wr w1 Hj.out Hl.out hO Hb0.out Hb1.out hs1 hO1
      obtain ⟨⟨hc, hfz⟩, hx⟩ := hx
      have Hx := Lib.hid hx; clear hx
      clear hs1 hO1 hO hs
      go_wp2
      go_roundw
      case rel => exact ⟨k + 1, by go_num, Hx.out⟩
      case measure => simp [intOf]; omega
    · have h4 : k = 4 := by omega
      subst h4
      match ls, hl with
      | [r0, r1, r2, r3], _ =>
        simp at hb1
        have c0 := cell_of hb1 0; have c1 := cell_of hb1 1; have c2 := cell_of hb1 2; have c3 := cell_of hb1 3
        have d0 := cell_of hb0 0; have d1 := cell_of hb0 1; have d2 := cell_of hb0 2; have d3 := cell_of hb0 3
        have f0 := free_of hb0 0; have f1 := free_of hb0 1; have f2 := free_of hb0 2; have f3 := free_of hb0 3
        simp [four] at c0 c1 c2 c3 d0 d1 d2 d3
        have Hs := Lib.hid hs; clear hs
        have HO := Lib.hid hO; clear hO
        have Hb0 := Lib.hid hb0; clear hb0
        clear hb1
        go_wp2
        have e := heap_setCell_same _ _ 3 _ _ (.int .u64 r0) (heap_setCell_same _ _ 2 _ _ (.int .u64 r1) (heap_setCell_same _ _ 1 _ _ (.int .u64 r2) (heap_setCell_same _ _ 0 _ _ (.int .u64 r3) Hb0.out)))
        simp [four] at e
        refine bodyPost_ret (v := .agg #[.int .u64 r3, .int .u64 r2, .int .u64 r1, .int .u64 r0])
          (results_cell_row Try.results81 _ _ _ _ _ _ _ rfl e Try.underlying45 rfl (by kernel_rfl)) rfl ?_
        refine ⟨r0, r1, r2, r3, rfl, Hstab.out _ _ _ _ ?_ Hs.out, ?_⟩
        · exact ((((Below.refl _ _).setCell (by simp) _).setCell (by simp) _).setCell (by simp) _).setCell (by simp) _
        · exact (((HO.out.setCell (.inl (by simp)) _).setCell (.inl (by simp)) _).setCell (.inl (by simp)) _).setCell (.inl (by simp)) _

end Go.Proofs.Ythbfhfgmanafpaa
