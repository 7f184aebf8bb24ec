/- WarmApart (written by genJn.py). -/
import Derived.Test.YtekkklbkgmbpjaaJm
namespace Go.Proofs.Ytekkklbkgmbpjaa
open Go.RowKit Go.Maps Go.Shelf Mp

theorem slot_has (a b : Nm) (k m : Wq) (L : List Cg) (h : ∀ c ∈ L, ∀ p, plOf c = some p → p.whole = true) : (hasBy plOf (.slot a k :: L) ⟨b, false, m⟩).isSome = (decide (a = b) && decide (k = m)) := by
  rw [hasBy_some (k := (⟨a, false, k⟩ : Pl)) rfl]
  by_cases e : (⟨b, false, m⟩ : Pl) = ⟨a, false, k⟩
  · rw [e, upf_same]; cases e; simp
  · rw [upf_other _ _ e]
    have h1 : hasBy plOf L ⟨b, false, m⟩ = none := by
      unfold hasBy
      rw [if_neg]
      intro h2
      obtain ⟨c, hc, h3⟩ := List.any_eq_true.1 h2
      have := h c hc _ (by simpa using h3)
      cases this
    rw [h1]
    by_cases e1 : a = b
    · by_cases e2 : k = m
      · exact absurd (by rw [e1, e2]) e
      · simp [e2]
    · simp [e1]
theorem addr_has (a b : Nm) (k : Wq) : (hasBy plOf [.addr b, .made a, .slot a k] (⟨a, true, Wq.zero⟩ : Pl)).isSome = decide (a = b) := by
  rw [hasBy_some (k := (⟨b, true, Wq.zero⟩ : Pl)) rfl]
  by_cases e : a = b
  · subst e; rw [upf_same]; simp
  · rw [upf_other _ _ (by intro h; cases h; exact e rfl), hasBy_none rfl, hasBy_some (k := (⟨a, false, k⟩ : Pl)) rfl, upf_other _ _ (by intro e; cases e), hasBy_nil]
    simp [e]
set_option maxRecDepth 100000 in
set_option maxHeartbeats 8000000 in
theorem apart_c {a b : Nm} {k m : Wq} (ha : a.length < big) (hb : b.length ≤ big) (hk : k.Ok) (hm : m.Ok) (W : World) : Calls Try.prog 7 #[.string (str a), .string (str b), .agg (wqC k), .agg (wqC m)] W fun e W' => e = .returned (.bool true) ∧ Below W.heap.size W W' := by
  have M := ((Bx.start W).alloc (.cells (wqC k) 46 (0, 0))).alloc (.cells (wqC m) 46 (0, 0))
  rw [alloc_size] at M
  have HB := Lib.hid M
  have HA := Lib.hid (And.intro ha (And.intro hb (And.intro hk hm)))
  have hE := eq_wq k m
  have hS := eql_str a b
  have hX : str a ++ ⟨#[120]⟩ = str (a ++ [120]) := str_append a [120]
  have hz := str_size a
  have hzl : (str a).size + 1 ≤ 281474976710656 := by unfold big at ha; omega
  clear M ha hb hk hm hz
  unfold wqC at *
  go_enter Try.func7, Try.ntmps7
  go_wp2_with fail
  refine (exam_c _).mono ?_
  rintro e V8 ⟨rfl, h9⟩
  have HB2 := Lib.hid (HB.out.call h9)
  clear HB h9
  have CN := Lib.hid (St.newB HB2.out)
  unfold ptr at CN
  go_wp2_with fail
  refine CN.out.mono ?_
  rintro e V0 ⟨b9, rfl, h9⟩
  have H0 := Lib.hid h9
  clear CN h9
  clear HB2
  have gk := H0.out.at (q := W.heap.size) (List.mem_cons_of_mem _ (List.mem_cons_self ..))
  have k0 := cell_of gk 0
  have k1 := cell_of gk 1
  have k2 := cell_of gk 2
  have k3 := cell_of gk 3
  simp only [List.getElem?_toArray, List.getElem?_cons_zero, List.getElem?_cons_succ] at k0 k1 k2 k3
  clear gk
  have C := Lib.hid (St.slot (a := a) (k := k) H0.out (by omega) (Nat.le_of_lt HA.out.1) HA.out.2.2.1)
  rw [show (hasBy plOf [] (⟨a, false, k⟩ : Pl)).isSome = false from by rw [hasBy_nil]; rfl, show noteBy plOf (.slot a k) ⟨a, false, k⟩ [] = [.slot a k] from by unfold noteBy; rw [hasBy_nil]; rfl, show wqC k = #[.int .u64 (k.a : Nat), .int .u64 (k.b : Nat), .int .u64 (k.c : Nat), .int .u64 (k.d : Nat)] from rfl] at C
  unfold ptr at C
  go_wp2_with fail
  refine C.out.mono ?_
  rintro e V1 ⟨rfl, h9⟩
  have H1 := Lib.hid (show St ([.slot a k]) b9 1 ([(W.heap.size + 1, Obj.cells #[.int .u64 (m.a : Nat), .int .u64 (m.b : Nat), .int .u64 (m.c : Nat), .int .u64 (m.d : Nat)] 46 (0, 0)), (W.heap.size, Obj.cells #[.int .u64 (k.a : Nat), .int .u64 (k.b : Nat), .int .u64 (k.c : Nat), .int .u64 (k.d : Nat)] 46 (0, 0))]) W V1 from h9)
  clear C H0 h9
  clear k0 k1 k2 k3
  have C := Lib.hid (St.made (a := a) H1.out (by omega) (Nat.le_of_lt HA.out.1))
  rw [show (hasBy mdOf [.slot a k] a).isSome = false from by rw [hasBy_none rfl, hasBy_nil]; rfl, show noteBy mdOf (.made a) a [.slot a k] = [.made a, .slot a k] from by unfold noteBy; rw [hasBy_none rfl, hasBy_nil]; rfl] at C
  unfold ptr at C
  go_wp2_with fail
  refine C.out.mono ?_
  rintro e V2 ⟨rfl, h9⟩
  have H2 := Lib.hid (show St ([.made a, .slot a k]) b9 2 ([(W.heap.size + 1, Obj.cells #[.int .u64 (m.a : Nat), .int .u64 (m.b : Nat), .int .u64 (m.c : Nat), .int .u64 (m.d : Nat)] 46 (0, 0)), (W.heap.size, Obj.cells #[.int .u64 (k.a : Nat), .int .u64 (k.b : Nat), .int .u64 (k.c : Nat), .int .u64 (k.d : Nat)] 46 (0, 0))]) W V2 from h9)
  clear C H1 h9
  have C := Lib.hid (St.hasAddr (a := a) H2.out (Nat.le_of_lt HA.out.1))
  rw [show (hasBy plOf [.made a, .slot a k] (⟨a, true, Wq.zero⟩ : Pl)).isSome = false from by rw [hasBy_none rfl, hasBy_some (k := (⟨a, false, k⟩ : Pl)) rfl, upf_other _ _ (by intro e; cases e), hasBy_nil]; rfl] at C
  unfold ptr at C
  go_wp2_with fail
  refine C.out.mono ?_
  rintro e V3 ⟨rfl, h9⟩
  have H3 := Lib.hid (show St ([.made a, .slot a k]) b9 2 ([(W.heap.size + 1, Obj.cells #[.int .u64 (m.a : Nat), .int .u64 (m.b : Nat), .int .u64 (m.c : Nat), .int .u64 (m.d : Nat)] 46 (0, 0)), (W.heap.size, Obj.cells #[.int .u64 (k.a : Nat), .int .u64 (k.b : Nat), .int .u64 (k.c : Nat), .int .u64 (k.d : Nat)] 46 (0, 0))]) W V3 from h9)
  clear C H2 h9
  have gm := H3.out.at (q := W.heap.size + 1) (List.mem_cons_self ..)
  have m0 := cell_of gm 0
  have m1 := cell_of gm 1
  have m2 := cell_of gm 2
  have m3 := cell_of gm 3
  simp only [List.getElem?_toArray, List.getElem?_cons_zero, List.getElem?_cons_succ] at m0 m1 m2 m3
  clear gm
  have C := Lib.hid (St.hasSlot (a := a) (k := m) H3.out (Nat.le_of_lt HA.out.1) HA.out.2.2.2)
  rw [show (hasBy plOf [.made a, .slot a k] (⟨a, false, m⟩ : Pl)).isSome = decide (k = m) from by rw [hasBy_none rfl, slot_has _ _ _ _ _ (fun _ h => by cases h)]; simp, show wqC m = #[.int .u64 (m.a : Nat), .int .u64 (m.b : Nat), .int .u64 (m.c : Nat), .int .u64 (m.d : Nat)] from rfl] at C
  unfold ptr at C
  go_wp2_with fail
  refine C.out.mono ?_
  rintro e V4 ⟨rfl, h9⟩
  have H4 := Lib.hid (show St ([.made a, .slot a k]) b9 2 ([(W.heap.size + 1, Obj.cells #[.int .u64 (m.a : Nat), .int .u64 (m.b : Nat), .int .u64 (m.c : Nat), .int .u64 (m.d : Nat)] 46 (0, 0)), (W.heap.size, Obj.cells #[.int .u64 (k.a : Nat), .int .u64 (k.b : Nat), .int .u64 (k.c : Nat), .int .u64 (k.d : Nat)] 46 (0, 0))]) W V4 from h9)
  clear C H3 h9
  clear m0 m1 m2 m3
  have gk := H4.out.at (q := W.heap.size) (List.mem_cons_of_mem _ (List.mem_cons_self ..))
  have k0 := cell_of gk 0
  have k1 := cell_of gk 1
  have k2 := cell_of gk 2
  have k3 := cell_of gk 3
  simp only [List.getElem?_toArray, List.getElem?_cons_zero, List.getElem?_cons_succ] at k0 k1 k2 k3
  clear gk
  have C := Lib.hid (St.hasSlot (a := b) (k := k) H4.out HA.out.2.1 HA.out.2.2.1)
  rw [show (hasBy plOf [.made a, .slot a k] (⟨b, false, k⟩ : Pl)).isSome = decide (a = b) from by rw [hasBy_none rfl, slot_has _ _ _ _ _ (fun _ h => by cases h)]; simp, show wqC k = #[.int .u64 (k.a : Nat), .int .u64 (k.b : Nat), .int .u64 (k.c : Nat), .int .u64 (k.d : Nat)] from rfl] at C
  unfold ptr at C
  go_wp2_with fail
  refine C.out.mono ?_
  rintro e V5 ⟨rfl, h9⟩
  have H5 := Lib.hid (show St ([.made a, .slot a k]) b9 2 ([(W.heap.size + 1, Obj.cells #[.int .u64 (m.a : Nat), .int .u64 (m.b : Nat), .int .u64 (m.c : Nat), .int .u64 (m.d : Nat)] 46 (0, 0)), (W.heap.size, Obj.cells #[.int .u64 (k.a : Nat), .int .u64 (k.b : Nat), .int .u64 (k.c : Nat), .int .u64 (k.d : Nat)] 46 (0, 0))]) W V5 from h9)
  clear C H4 h9
  clear k0 k1 k2 k3
  have C := Lib.hid (St.addr (a := b) H5.out (by omega) HA.out.2.1)
  have e9 : hasBy plOf [.made a, .slot a k] (⟨b, true, Wq.zero⟩ : Pl) = none := by rw [hasBy_none rfl, hasBy_some (k := (⟨a, false, k⟩ : Pl)) rfl, upf_other _ _ (by intro e; cases e), hasBy_nil]
  rw [show (hasBy plOf [.made a, .slot a k] (⟨b, true, Wq.zero⟩ : Pl)).isSome = false from by rw [e9]; rfl, show noteBy plOf (.addr b) ⟨b, true, Wq.zero⟩ [.made a, .slot a k] = [.addr b, .made a, .slot a k] from by unfold noteBy; rw [e9]; rfl] at C
  clear e9
  unfold ptr at C
  go_wp2_with fail
  refine C.out.mono ?_
  rintro e V6 ⟨rfl, h9⟩
  have H6 := Lib.hid (show St ([.addr b, .made a, .slot a k]) b9 3 ([(W.heap.size + 1, Obj.cells #[.int .u64 (m.a : Nat), .int .u64 (m.b : Nat), .int .u64 (m.c : Nat), .int .u64 (m.d : Nat)] 46 (0, 0)), (W.heap.size, Obj.cells #[.int .u64 (k.a : Nat), .int .u64 (k.b : Nat), .int .u64 (k.c : Nat), .int .u64 (k.d : Nat)] 46 (0, 0))]) W V6 from h9)
  clear C H5 h9
  have gk := H6.out.at (q := W.heap.size) (List.mem_cons_of_mem _ (List.mem_cons_self ..))
  have k0 := cell_of gk 0
  have k1 := cell_of gk 1
  have k2 := cell_of gk 2
  have k3 := cell_of gk 3
  simp only [List.getElem?_toArray, List.getElem?_cons_zero, List.getElem?_cons_succ] at k0 k1 k2 k3
  clear gk
  have gm := H6.out.at (q := W.heap.size + 1) (List.mem_cons_self ..)
  have m0 := cell_of gm 0
  have m1 := cell_of gm 1
  have m2 := cell_of gm 2
  have m3 := cell_of gm 3
  simp only [List.getElem?_toArray, List.getElem?_cons_zero, List.getElem?_cons_succ] at m0 m1 m2 m3
  clear gm
  generalize hr1 : decide (k = m) = r1 at *
  generalize hr2 : decide (a = b) = r2 at *
  have HR := Lib.hid (And.intro hr1 hr2)
  clear hr1 hr2
  have C := Lib.hid (St.hasAddr (a := b) H6.out HA.out.2.1)
  rw [show (hasBy plOf [.addr b, .made a, .slot a k] (⟨b, true, Wq.zero⟩ : Pl)).isSome = true from by rw [hasBy_some (k := (⟨b, true, Wq.zero⟩ : Pl)) rfl, upf_same]; rfl] at C
  unfold ptr at C
  go_wp2_with fail
  refine C.out.mono ?_
  rintro e V7 ⟨rfl, h9⟩
  have H7 := Lib.hid (show St ([.addr b, .made a, .slot a k]) b9 3 ([(W.heap.size + 1, Obj.cells #[.int .u64 (m.a : Nat), .int .u64 (m.b : Nat), .int .u64 (m.c : Nat), .int .u64 (m.d : Nat)] 46 (0, 0)), (W.heap.size, Obj.cells #[.int .u64 (k.a : Nat), .int .u64 (k.b : Nat), .int .u64 (k.c : Nat), .int .u64 (k.d : Nat)] 46 (0, 0))]) W V7 from h9)
  clear C H6 h9
  have C := Lib.hid (St.hasAddr (a := a) H7.out (Nat.le_of_lt HA.out.1))
  rw [show (hasBy plOf [.addr b, .made a, .slot a k] (⟨a, true, Wq.zero⟩ : Pl)).isSome = r2 from by rw [← HR.out.2]; exact addr_has a b k] at C
  unfold ptr at C
  go_wp2_with fail
  refine C.out.mono ?_
  rintro e V8 ⟨rfl, h9⟩
  have H8 := Lib.hid (show St ([.addr b, .made a, .slot a k]) b9 3 ([(W.heap.size + 1, Obj.cells #[.int .u64 (m.a : Nat), .int .u64 (m.b : Nat), .int .u64 (m.c : Nat), .int .u64 (m.d : Nat)] 46 (0, 0)), (W.heap.size, Obj.cells #[.int .u64 (k.a : Nat), .int .u64 (k.b : Nat), .int .u64 (k.c : Nat), .int .u64 (k.d : Nat)] 46 (0, 0))]) W V8 from h9)
  clear C H7 h9
  have C := Lib.hid (St.made (a := a) H8.out (by omega) (Nat.le_of_lt HA.out.1))
  have e9 : hasBy mdOf [.addr b, .made a, .slot a k] a = some () := by rw [hasBy_none rfl, hasBy_some (k := a) rfl, upf_same]
  rw [show (hasBy mdOf [.addr b, .made a, .slot a k] a).isSome = true from by rw [e9]; rfl, show noteBy mdOf (.made a) a [.addr b, .made a, .slot a k] = [.addr b, .made a, .slot a k] from by unfold noteBy; rw [e9]; rfl] at C
  clear e9
  unfold ptr at C
  go_wp2_with fail
  refine C.out.mono ?_
  rintro e V9 ⟨rfl, h9⟩
  have H9 := Lib.hid (show St ([.addr b, .made a, .slot a k]) b9 4 ([(W.heap.size + 1, Obj.cells #[.int .u64 (m.a : Nat), .int .u64 (m.b : Nat), .int .u64 (m.c : Nat), .int .u64 (m.d : Nat)] 46 (0, 0)), (W.heap.size, Obj.cells #[.int .u64 (k.a : Nat), .int .u64 (k.b : Nat), .int .u64 (k.c : Nat), .int .u64 (k.d : Nat)] 46 (0, 0))]) W V9 from h9)
  clear C H8 h9
  have C := Lib.hid (St.made (a := a ++ [120]) H9.out (by omega) (by have := HA.out.1; simp at this ⊢; unfold big at *; omega))
  rw [show (hasBy mdOf [.addr b, .made a, .slot a k] (a ++ [120])).isSome = false from by rw [hasBy_none rfl, hasBy_some (k := a) rfl, upf_other _ _ (by simp), hasBy_none rfl, hasBy_nil]; rfl, ← hX] at C
  unfold ptr at C
  go_wp2_with fail
  refine C.out.mono ?_
  rintro e V10 ⟨rfl, h9⟩
  have H10 := Lib.hid h9
  clear C H9 h9
  go_wp2_with fail
  go_ret
  exact ⟨by cases r1 <;> cases r2 <;> rfl, H10.out.below⟩
end Go.Proofs.Ytekkklbkgmbpjaa
