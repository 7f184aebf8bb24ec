/- Merged: Fj, Fk, Fl. -/
import Derived.Test.YtekoaheiapddiaaGreatU26
import Derived.Deep.CutRange
section
namespace Go.Proofs.YtekoaheiapddiaaGreat.Dz
open Go.RowKit
namespace acc
abbrev tO : Obj := .cells #[.int .u64 0, .int .u64 0, .int .u64 0, .int .u64 0, .int .u64 0, .string ⟨#[]⟩] 82 (0, 0)
section
variable {p : Pd} {c : Cl} {name : Nm} {d N : Nat} {F : Nat → Prop} {b m : Nat} {sv av : Value} {W : World}
theorem zero_is : accC ReplyP.zero = #[.int .u64 0, .int .u64 0, .int .u64 0, .int .u64 0, .int .u64 0, .string ⟨#[]⟩] := rfl
/-- The call's end: its result's box is B1. -/
theorem fin {F0 : Nat → Prop} {V V' : World} {c' : Cl} {p' : Pd} {N' : Nat} {F' : Nat → Prop} {sv' av' : Value} {L : List (Nat × Obj)} (h : Am p' c' name d N' F' b m sv' av' W F0 L V) (hm : (W.heap.size + 1, tO) ∈ L) (u0 u1 u2 u3 u4 u5 : Value)
    (hV : V' = ((((((V.setCell ⟨W.heap.size + 1, 0, none⟩ u0).setCell ⟨W.heap.size + 1, 1, none⟩ u1).setCell ⟨W.heap.size + 1, 2, none⟩ u2).setCell ⟨W.heap.size + 1, 3, none⟩ u3).setCell ⟨W.heap.size + 1, 4, none⟩ u4).setCell ⟨W.heap.size + 1, 5, none⟩ u5)) : V'.heap[W.heap.size + 1]? = some (.cells #[u0, u1, u2, u3, u4, u5] 82 (0, 0)) ∧ Gone (p', c') name d N' b m F0 W V' := by
  subst hV
  have hb : V.heap[W.heap.size + 1]? = some tO := h.at hm
  have hs := set6 hb u0 u1 u2 u3 u4 u5
  exact ⟨hs, Gone.mk ((h.sub (L' := [(W.heap.size + 1, tO)]) (fun x hx => by obtain rfl := List.mem_singleton.1 hx; exact hm)).put (chg_set6 V (W.heap.size + 1) u0 u1 u2 u3 u4 u5) hs (by simp))⟩
set_option maxRecDepth 100000 in
set_option maxHeartbeats 8000000 in
theorem ask_c (h : Bo p c name d N F b m sv av W) {a : AskP} (hw : a.Wf) (hi : a.id = 0) (hk : a.kind = 2 ∨ a.kind = 1 ∧ a.slot = 0) (hn : c.asked.length ≤ 1000000) (hN : N < 900000) (hs : name.length ≤ 1000000) :
    Calls Tryz.prog 99 #[.pointer (some ⟨b, 0, none⟩), askV a, .func (.func 100) #[] #[]] W fun e W' => e = .returned (.tuple #[.agg (accC (askP name p c a).1.1), .int .i64 (askP name p c a).1.2]) ∧ Gone (askP name p c a).2 name d (N + 4) b m (ftB F b m sv av) W W' := by
  have HM : Am p c name d N F b m sv av W (ftB F b m sv av) [(W.heap.size + 2, tO), (W.heap.size + 1, tO), (W.heap.size, aO a)] (((W.alloc (.cells (askCells a) 117)).alloc (.cells #[.int .u64 0, .int .u64 0, .int .u64 0, .int .u64 0, .int .u64 0, .string ⟨#[]⟩] 82)).alloc (.cells #[.int .u64 0, .int .u64 0, .int .u64 0, .int .u64 0, .int .u64 0, .string ⟨#[]⟩] 82)) := by
    have h1 := (((Am.start h).alloc (aO a)).alloc tO).alloc tO
    rw [alloc_size, alloc_size] at h1
    exact h1
  have LC := Lib.hid (fun V p (k : Bo p c name d N F b m sv av V) (ha : a.Key) => learn_c k ha hn hN hs)
  have HA := Lib.hid (And.intro hw (And.intro hi (And.intro hk hN)))
  have hen := enter_acc
  clear h hw hi hk hn hN hs
  unfold askV
  unfold askCells at HM
  go_enter Tryz.func99, Tryz.ntmps99
  go_upto_region 2 with fail
  generalize World.alloc _ _ = V at HM ⊢
  obtain ⟨⟨x0, x1, x2, x3, x4, x5, x6⟩, _⟩ := cells7 (HM.at (q := W.heap.size) (o := aO a) (List.mem_cons_of_mem _ (List.mem_cons_of_mem _ (List.mem_cons_self ..))))
  by_cases hl : a.addr.length = 20
  · have hz : ((str a.addr).size : Int) = 20 := by rw [str_size]; omega
    have ha : a.Key := ⟨HA.out.1, ⟨hl, HA.out.2.2.1⟩, HA.out.2.1⟩
    have HK := Lib.hid (And.intro ha hl)
    have HMM := Lib.hid HM
    have HS0 := Lib.hid (fun (V : World) (hV : Am p c name d N F b m sv av W (ftB F b m sv av) [(W.heap.size + 2, tO), (W.heap.size + 1, tO), (W.heap.size, aO a)] V) => (show V.cell? ⟨b, 2, none⟩ = some (.map (some m)) ∧ _ ∧ _ from
      ⟨hV.bo.at'.reads.1.2.2.1, (cells7 (hV.at (q := W.heap.size) (o := aO a) (List.mem_cons_of_mem _ (List.mem_cons_of_mem _ (List.mem_cons_self ..))))).1, hV.bo.at'.map.look hV.bo.at'.ok ha⟩))
    clear ha hl HM
    go_wp2_with fail
    clear x0 x1 x2 x3 x4 x5 x6 hz
    have M1 := HMM.out.call (Below.refl _ V).drew
    clear HMM
    obtain ⟨rr, hrr⟩ : ∃ rr, rr = (getK c.known a).getD ReplyP.zero := ⟨_, rfl⟩
    obtain ⟨ok, hok⟩ : ∃ ok, ok = (getK c.known a).isSome := ⟨_, rfl⟩
    rw [← hrr, ← hok] at HS0
    have HRR := Lib.hid hrr
    have HOK := Lib.hid hok
    clear hrr hok
    unfold askV replyV at HS0
    have HS := HS0
    clear HS0
    refine Drawn.start (fun V => Am p c name d N F b m sv av W (ftB F b m sv av) [(W.heap.size + 2, tO), (W.heap.size + 1, tO), (W.heap.size, aO a)] V) (fun _ => false) (by kernel_rfl) ?_
    have H0 := M1
    generalize World.drew _ = V1 at M1 H0 ⊢
    refine Drawn.take 0 (some 19) (v := ?_) rfl rfl (by kernel_rfl) (by kernel_rfl) (by kernel_rfl) (by kernel_rfl) (by kernel_rfl) rfl (fun _ _ _ h => h) (Or.inl ⟨rfl, ?_⟩) H0 ?_
    rotate_left
    · intro W hW; have hW := HS.out W hW; go_simp; try with_reducible rfl
    simp only [put_list, List.set]
    refine Drawn.take 1 (some 20) (v := ?_) rfl rfl (by kernel_rfl) (by kernel_rfl) (by kernel_rfl) (by kernel_rfl) (by kernel_rfl) rfl (fun _ _ _ h => h) (Or.inl ⟨rfl, ?_⟩) H0 ?_
    rotate_left
    · intro W hW; have hW := HS.out W hW; go_simp; try with_reducible rfl
    simp only [put_list, List.set]
    refine Drawn.take 2 (some 21) (v := ?_) rfl rfl (by kernel_rfl) (by kernel_rfl) (by kernel_rfl) (by kernel_rfl) (by kernel_rfl) rfl (fun _ _ _ h => h) (Or.inl ⟨rfl, ?_⟩) H0 ?_
    rotate_left
    · intro W hW; have hW := HS.out W hW; go_simp; try with_reducible rfl
    simp only [put_list, List.set]
    refine Drawn.take 3 (some 22) (v := ?_) rfl rfl (by kernel_rfl) (by kernel_rfl) (by kernel_rfl) (by kernel_rfl) (by kernel_rfl) rfl (fun _ _ _ h => h) (Or.inl ⟨rfl, ?_⟩) H0 ?_
    rotate_left
    · intro W hW; have hW := HS.out W hW; go_simp; try with_reducible rfl
    simp only [put_list, List.set]
    refine Drawn.take 4 (some 23) (v := ?_) rfl rfl (by kernel_rfl) (by kernel_rfl) (by kernel_rfl) (by kernel_rfl) (by kernel_rfl) rfl (fun _ _ _ h => h) (Or.inl ⟨rfl, ?_⟩) H0 ?_
    rotate_left
    · intro W hW; have hW := HS.out W hW; go_simp; try with_reducible rfl
    simp only [put_list, List.set]
    refine Drawn.take 5 (some 24) (v := ?_) rfl rfl (by kernel_rfl) (by kernel_rfl) (by kernel_rfl) (by kernel_rfl) (by kernel_rfl) rfl (fun _ _ _ h => h) (Or.inl ⟨rfl, ?_⟩) H0 ?_
    rotate_left
    · intro W hW; have hW := HS.out W hW; go_simp; try with_reducible rfl
    simp only [put_list, List.set]
    refine Drawn.take 6 (some 18) (v := ?_) rfl rfl (by kernel_rfl) (by kernel_rfl) (by kernel_rfl) (by kernel_rfl) (by kernel_rfl) rfl (fun _ _ _ h => h) (Or.inl ⟨rfl, ?_⟩) H0 ?_
    rotate_left
    · intro W hW; have hW := HS.out W hW; go_simp; try with_reducible rfl
    simp only [put_list, List.set]
    refine Drawn.take 7 (some 25) (v := ?_) rfl rfl (by kernel_rfl) (by kernel_rfl) (by kernel_rfl) (by kernel_rfl) (by kernel_rfl) rfl (fun _ _ _ h => h) (Or.inl ⟨rfl, ?_⟩) H0 ?_
    rotate_left
    · intro W hW; have hW := HS.out W hW; go_simp; try with_reducible rfl
    simp only [put_list, List.set]
    refine Drawn.take 8 (some 26) (v := ?_) rfl rfl (by kernel_rfl) (by kernel_rfl) (by kernel_rfl) (by kernel_rfl) (by kernel_rfl) rfl (fun _ _ _ h => h) (Or.inl ⟨rfl, ?_⟩) H0 ?_
    rotate_left
    · intro W hW; have hW := HS.out W hW; go_simp; try with_reducible rfl
    simp only [put_list, List.set]
    refine Drawn.only 9 (by kernel_rfl) rfl rfl (fun K hK => ?_)
    go_simp
    refine hK _ _ (fun _ _ => M1.call ((Below.refl _ _).alloc (Nat.le_refl _) _)) ?_
    clear hK K H0 HS
    have M2 := M1.alloc (rO ReplyP.zero)
    unfold rO at M2
    rw [zeroCells] at M2
    obtain ⟨q, hq⟩ : ∃ q, q = V1.heap.size := ⟨_, rfl⟩
    rw [← hq] at M2 ⊢
    have hne : W.heap.size + 2 < q := by rw [hq]; exact lt_of (M1.at (q := W.heap.size + 2) (o := tO) (List.mem_cons_self ..))
    clear hq M1
    generalize World.alloc V1 _ = V2 at M2 ⊢
    try simp only [put_list, List.set]
    have k := M2.at (q := q) (List.mem_cons_self ..)
    obtain ⟨⟨g0, g1, g2, g3, g4, g5, g6, g7, g8, g9, g10⟩, e0, e1, e2, e3, e4, e5, e6, e7, e8, e9, e10⟩ := cells11 k
    clear k
    refine Drawn.only 10 (by kernel_rfl) rfl rfl (fun K hK => ?_)
    go_simp
    have M3 := M2.put11 (r := ReplyP.zero) rr (by intro x hx; simp only [List.mem_cons, List.not_mem_nil, or_false] at hx; rcases hx with rfl | rfl | rfl <;> simp <;> omega) rfl
    refine hK _ _ (fun _ _ => M3.sub (fun x hx => List.mem_cons_of_mem _ hx)) ?_
    clear hK K g0 g1 g2 g3 g4 g5 g6 g7 g8 g9 g10 e0 e1 e2 e3 e4 e5 e6 e7 e8 e9 e10 M2
    generalize World.setCell _ _ _ = V3 at M3 ⊢
    try simp only [put_list, put_none, List.set]
    refine Drawn.only 11 (by kernel_rfl) rfl rfl (fun K hK => ?_)
    go_simp
    refine hK _ _ (fun _ _ => M3.sub (fun x hx => List.mem_cons_of_mem _ hx)) ?_
    clear hK K
    try simp only [put_list, put_none, List.set]
    refine Drawn.done (by kernel_rfl) ?_ _
    cases hg : getK c.known a with
    | some r =>
      have hrr := HRR.out
      have hok := HOK.out
      rw [hg] at hrr hok
      clear HRR HOK
      obtain rfl : rr = r := hrr
      obtain rfl : ok = true := hok
      obtain ⟨⟨g0, g1, g2, g3, g4, g5, g6, g7, g8, g9, g10⟩, _⟩ := cells11 (M3.at (q := q) (List.mem_cons_self ..))
      have P1 := Lib.hid (fun V => part_acc rr V)
      unfold replyV at P1
      have HM3 := Lib.hid M3
      have HG := Lib.hid (askP_known (name := name) (p := p) HK.out.2 hg)
      clear M3 hg
      go_wp2_with fail
      refine (P1.out _).mono ?_
      rintro e V4 ⟨rfl, hb⟩
      have M4 := HM3.out.call hb
      clear HM3 hb g0 g1 g2 g3 g4 g5 g6 g7 g8 g9 g10
      obtain ⟨⟨k0, k1, k2, k3, k4, k5⟩, d0, d1, d2, d3, d4, d5⟩ := cells6 (M4.at (q := W.heap.size + 1) (o := tO) (List.mem_cons_of_mem _ (List.mem_cons_of_mem _ (List.mem_cons_self ..))))
      have HM4 := Lib.hid M4
      clear M4
      unfold accC
      go_wp2_with fail
      obtain ⟨q1, q2⟩ := fin HM4.out (List.mem_cons_of_mem _ (List.mem_cons_of_mem _ (List.mem_cons_self ..))) _ _ _ _ _ _ rfl
      rw [HG.out]
      exact bodyPost_ret (results_cell_slot Tryz.results99 _ _ _ _ _ _ _ _ rfl rfl q1 Tryz.underlying82 rfl (by kernel_rfl)) rfl ⟨rfl, q2.any (by omega)⟩
    | none =>
      have hok := HOK.out
      rw [hg] at hok
      obtain rfl : ok = false := hok
      have HG := Lib.hid (askP_new (name := name) (p := p) HK.out.2 hg)
      replace M3 := M3.sub (L' := [(W.heap.size + 2, tO), (W.heap.size + 1, tO), (W.heap.size, aO a)]) (fun x hx => List.mem_cons_of_mem _ hx)
      obtain ⟨⟨x0, x1, x2, x3, x4, x5, x6⟩, _⟩ := cells7 (M3.at (q := W.heap.size) (o := aO a) (List.mem_cons_of_mem _ (List.mem_cons_of_mem _ (List.mem_cons_self ..))))
      have HM3 := Lib.hid M3
      have L1 := Lib.hid (LC.out _ _ M3.bo HK.out.1)
      unfold askV at L1
      clear M3 hg LC HOK
      go_wp2_with fail
      refine L1.out.mono ?_
      have hzz := learnP_zero (name := name) (p := p) (c := c) (a := a)
      rw [← HG.out] at hzz ⊢
      rintro e V4 ⟨he, F4, sv4, av4, hB, hC⟩
      have M4 := HM3.out.step hB hC
      clear HM3 hB hC x0 x1 x2 x3 x4 x5 x6 L1
      generalize hres : askP name p c a = res at *
      obtain ⟨⟨r9, e9⟩, p9, c9⟩ := res
      have HR := Lib.hid hres
      clear hres
      simp only at M4 he hzz
      subst he
      have HZZ := Lib.hid hzz
      clear hzz
      have M5 := M4.alloc (rO r9)
      unfold rO at M5
      unfold replyV
      unfold replyCells at M5
      by_cases h0 : e9 = 0
      · subst h0
        have P1 := Lib.hid (fun V => part_acc r9 V)
        unfold replyV at P1
        have HM5 := Lib.hid M5
        clear M4 M5
        go_wp2_with fail
        refine (P1.out _).mono ?_
        rintro e V6 ⟨rfl, hb⟩
        have M6 := HM5.out.call hb
        clear HM5 hb
        obtain ⟨⟨k0, k1, k2, k3, k4, k5⟩, d0, d1, d2, d3, d4, d5⟩ := cells6 (M6.at (q := W.heap.size + 1) (o := tO) (List.mem_cons_of_mem _ (List.mem_cons_of_mem _ (List.mem_cons_self ..))))
        have HM6 := Lib.hid M6
        clear M6
        unfold accC
        go_wp2_with fail
        obtain ⟨q1, q2⟩ := fin HM6.out (List.mem_cons_of_mem _ (List.mem_cons_of_mem _ (List.mem_cons_self ..))) _ _ _ _ _ _ rfl
        rw [HR.out]
        exact bodyPost_ret (results_cell_slot Tryz.results99 _ _ _ _ _ _ _ _ rfl rfl q1 Tryz.underlying82 rfl (by kernel_rfl)) rfl ⟨rfl, q2⟩
      · obtain rfl : r9 = ReplyP.zero := HZZ.out h0
        obtain ⟨⟨h0, h1, h2, h3, h4, h5⟩, _⟩ := cells6 (M5.at (q := W.heap.size + 2) (o := tO) (List.mem_cons_of_mem _ (List.mem_cons_self ..)))
        obtain ⟨⟨k0, k1, k2, k3, k4, k5⟩, d0, d1, d2, d3, d4, d5⟩ := cells6 (M5.at (q := W.heap.size + 1) (o := tO) (List.mem_cons_of_mem _ (List.mem_cons_of_mem _ (List.mem_cons_self ..))))
        have HM5 := Lib.hid M5
        clear M4 M5
        go_wp2_with fail
        obtain ⟨q1, q2⟩ := fin HM5.out (List.mem_cons_of_mem _ (List.mem_cons_of_mem _ (List.mem_cons_self ..))) _ _ _ _ _ _ rfl
        rw [HR.out]
        simp only [zero_is]
        exact bodyPost_ret (results_cell_slot Tryz.results99 _ _ _ _ _ _ _ _ rfl rfl q1 Tryz.underlying82 rfl (by kernel_rfl)) rfl ⟨rfl, q2⟩
  · have hz : ¬ ((str a.addr).size : Int) = 20 := by rw [str_size]; omega
    have HG := Lib.hid (askP_short (name := name) (p := p) (c := c) (a := a) hl)
    obtain ⟨⟨h0, h1, h2, h3, h4, h5⟩, _⟩ := cells6 (HM.at (q := W.heap.size + 2) (o := tO) (List.mem_cons_self ..))
    obtain ⟨⟨k0, k1, k2, k3, k4, k5⟩, d0, d1, d2, d3, d4, d5⟩ := cells6 (HM.at (q := W.heap.size + 1) (o := tO) (List.mem_cons_of_mem _ (List.mem_cons_self ..)))
    have HMM := Lib.hid HM
    clear HM hl LC
    go_wp2_with fail
    obtain ⟨q1, q2⟩ := fin HMM.out (List.mem_cons_of_mem _ (List.mem_cons_self ..)) _ _ _ _ _ _ rfl
    rw [HG.out]
    simp only [zero_is]
    exact bodyPost_ret (results_cell_slot Tryz.results99 _ _ _ _ _ _ _ _ rfl rfl q1 Tryz.underlying82 rfl (by kernel_rfl)) rfl ⟨rfl, q2.any (by omega)⟩
end
end acc
end Go.Proofs.YtekoaheiapddiaaGreat.Dz
end
section
namespace Go.Proofs.YtekoaheiapddiaaGreat.Dz
open Go.RowKit
namespace val
abbrev tO : Obj := .cells #[.int .u64 0, .int .u64 0, .int .u64 0, .int .u64 0] 61 (0, 0)
section
variable {p : Pd} {c : Cl} {name : Nm} {d N : Nat} {F : Nat → Prop} {b m : Nat} {sv av : Value} {W : World}
theorem zero_is : valC ReplyP.zero = #[.int .u64 0, .int .u64 0, .int .u64 0, .int .u64 0] := rfl
/-- The call's end: its result's box is B1. -/
theorem fin {F0 : Nat → Prop} {V V' : World} {c' : Cl} {p' : Pd} {N' : Nat} {F' : Nat → Prop} {sv' av' : Value} {L : List (Nat × Obj)} (h : Am p' c' name d N' F' b m sv' av' W F0 L V) (hm : (W.heap.size + 1, tO) ∈ L) (u0 u1 u2 u3 : Value)
    (hV : V' = ((((V.setCell ⟨W.heap.size + 1, 0, none⟩ u0).setCell ⟨W.heap.size + 1, 1, none⟩ u1).setCell ⟨W.heap.size + 1, 2, none⟩ u2).setCell ⟨W.heap.size + 1, 3, none⟩ u3)) : V'.heap[W.heap.size + 1]? = some (.cells #[u0, u1, u2, u3] 61 (0, 0)) ∧ Gone (p', c') name d N' b m F0 W V' := by
  subst hV
  have hb : V.heap[W.heap.size + 1]? = some tO := h.at hm
  have hs := heap_set4 hb u0 u1 u2 u3
  exact ⟨hs, Gone.mk ((h.sub (L' := [(W.heap.size + 1, tO)]) (fun x hx => by obtain rfl := List.mem_singleton.1 hx; exact hm)).put (chg_set4 V (W.heap.size + 1) u0 u1 u2 u3) hs (by simp))⟩
set_option maxRecDepth 100000 in
set_option maxHeartbeats 8000000 in
theorem ask_c (h : Bo p c name d N F b m sv av W) {a : AskP} (hw : a.Wf) (hi : a.id = 0) (hk : a.kind = 2 ∨ a.kind = 1 ∧ a.slot = 0) (hn : c.asked.length ≤ 1000000) (hN : N < 900000) (hs : name.length ≤ 1000000) :
    Calls Tryz.prog 118 #[.pointer (some ⟨b, 0, none⟩), askV a, .func (.func 119) #[] #[]] W fun e W' => e = .returned (.tuple #[.agg (valC (askP name p c a).1.1), .int .i64 (askP name p c a).1.2]) ∧ Gone (askP name p c a).2 name d (N + 4) b m (ftB F b m sv av) W W' := by
  have HM : Am p c name d N F b m sv av W (ftB F b m sv av) [(W.heap.size + 2, tO), (W.heap.size + 1, tO), (W.heap.size, aO a)] (((W.alloc (.cells (askCells a) 117)).alloc (.cells #[.int .u64 0, .int .u64 0, .int .u64 0, .int .u64 0] 61)).alloc (.cells #[.int .u64 0, .int .u64 0, .int .u64 0, .int .u64 0] 61)) := by
    have h1 := (((Am.start h).alloc (aO a)).alloc tO).alloc tO
    rw [alloc_size, alloc_size] at h1
    exact h1
  have LC := Lib.hid (fun V p (k : Bo p c name d N F b m sv av V) (ha : a.Key) => learn_c k ha hn hN hs)
  have HA := Lib.hid (And.intro hw (And.intro hi (And.intro hk hN)))
  have hen := enter_val
  clear h hw hi hk hn hN hs
  unfold askV
  unfold askCells at HM
  go_enter Tryz.func118, Tryz.ntmps118
  go_upto_region 2 with fail
  generalize World.alloc _ _ = V at HM ⊢
  obtain ⟨⟨x0, x1, x2, x3, x4, x5, x6⟩, _⟩ := cells7 (HM.at (q := W.heap.size) (o := aO a) (List.mem_cons_of_mem _ (List.mem_cons_of_mem _ (List.mem_cons_self ..))))
  by_cases hl : a.addr.length = 20
  · have hz : ((str a.addr).size : Int) = 20 := by rw [str_size]; omega
    have ha : a.Key := ⟨HA.out.1, ⟨hl, HA.out.2.2.1⟩, HA.out.2.1⟩
    have HK := Lib.hid (And.intro ha hl)
    have HMM := Lib.hid HM
    have HS0 := Lib.hid (fun (V : World) (hV : Am p c name d N F b m sv av W (ftB F b m sv av) [(W.heap.size + 2, tO), (W.heap.size + 1, tO), (W.heap.size, aO a)] V) => (show V.cell? ⟨b, 2, none⟩ = some (.map (some m)) ∧ _ ∧ _ from
      ⟨hV.bo.at'.reads.1.2.2.1, (cells7 (hV.at (q := W.heap.size) (o := aO a) (List.mem_cons_of_mem _ (List.mem_cons_of_mem _ (List.mem_cons_self ..))))).1, hV.bo.at'.map.look hV.bo.at'.ok ha⟩))
    clear ha hl HM
    go_wp2_with fail
    clear x0 x1 x2 x3 x4 x5 x6 hz
    have M1 := HMM.out.call (Below.refl _ V).drew
    clear HMM
    obtain ⟨rr, hrr⟩ : ∃ rr, rr = (getK c.known a).getD ReplyP.zero := ⟨_, rfl⟩
    obtain ⟨ok, hok⟩ : ∃ ok, ok = (getK c.known a).isSome := ⟨_, rfl⟩
    rw [← hrr, ← hok] at HS0
    have HRR := Lib.hid hrr
    have HOK := Lib.hid hok
    clear hrr hok
    unfold askV replyV at HS0
    have HS := HS0
    clear HS0
    refine Drawn.start (fun V => Am p c name d N F b m sv av W (ftB F b m sv av) [(W.heap.size + 2, tO), (W.heap.size + 1, tO), (W.heap.size, aO a)] V) (fun _ => false) (by kernel_rfl) ?_
    have H0 := M1
    generalize World.drew _ = V1 at M1 H0 ⊢
    refine Drawn.take 0 (some 19) (v := ?_) rfl rfl (by kernel_rfl) (by kernel_rfl) (by kernel_rfl) (by kernel_rfl) (by kernel_rfl) rfl (fun _ _ _ h => h) (Or.inl ⟨rfl, ?_⟩) H0 ?_
    rotate_left
    · intro W hW; have hW := HS.out W hW; go_simp; try with_reducible rfl
    simp only [put_list, List.set]
    refine Drawn.take 1 (some 20) (v := ?_) rfl rfl (by kernel_rfl) (by kernel_rfl) (by kernel_rfl) (by kernel_rfl) (by kernel_rfl) rfl (fun _ _ _ h => h) (Or.inl ⟨rfl, ?_⟩) H0 ?_
    rotate_left
    · intro W hW; have hW := HS.out W hW; go_simp; try with_reducible rfl
    simp only [put_list, List.set]
    refine Drawn.take 2 (some 21) (v := ?_) rfl rfl (by kernel_rfl) (by kernel_rfl) (by kernel_rfl) (by kernel_rfl) (by kernel_rfl) rfl (fun _ _ _ h => h) (Or.inl ⟨rfl, ?_⟩) H0 ?_
    rotate_left
    · intro W hW; have hW := HS.out W hW; go_simp; try with_reducible rfl
    simp only [put_list, List.set]
    refine Drawn.take 3 (some 22) (v := ?_) rfl rfl (by kernel_rfl) (by kernel_rfl) (by kernel_rfl) (by kernel_rfl) (by kernel_rfl) rfl (fun _ _ _ h => h) (Or.inl ⟨rfl, ?_⟩) H0 ?_
    rotate_left
    · intro W hW; have hW := HS.out W hW; go_simp; try with_reducible rfl
    simp only [put_list, List.set]
    refine Drawn.take 4 (some 23) (v := ?_) rfl rfl (by kernel_rfl) (by kernel_rfl) (by kernel_rfl) (by kernel_rfl) (by kernel_rfl) rfl (fun _ _ _ h => h) (Or.inl ⟨rfl, ?_⟩) H0 ?_
    rotate_left
    · intro W hW; have hW := HS.out W hW; go_simp; try with_reducible rfl
    simp only [put_list, List.set]
    refine Drawn.take 5 (some 24) (v := ?_) rfl rfl (by kernel_rfl) (by kernel_rfl) (by kernel_rfl) (by kernel_rfl) (by kernel_rfl) rfl (fun _ _ _ h => h) (Or.inl ⟨rfl, ?_⟩) H0 ?_
    rotate_left
    · intro W hW; have hW := HS.out W hW; go_simp; try with_reducible rfl
    simp only [put_list, List.set]
    refine Drawn.take 6 (some 18) (v := ?_) rfl rfl (by kernel_rfl) (by kernel_rfl) (by kernel_rfl) (by kernel_rfl) (by kernel_rfl) rfl (fun _ _ _ h => h) (Or.inl ⟨rfl, ?_⟩) H0 ?_
    rotate_left
    · intro W hW; have hW := HS.out W hW; go_simp; try with_reducible rfl
    simp only [put_list, List.set]
    refine Drawn.take 7 (some 25) (v := ?_) rfl rfl (by kernel_rfl) (by kernel_rfl) (by kernel_rfl) (by kernel_rfl) (by kernel_rfl) rfl (fun _ _ _ h => h) (Or.inl ⟨rfl, ?_⟩) H0 ?_
    rotate_left
    · intro W hW; have hW := HS.out W hW; go_simp; try with_reducible rfl
    simp only [put_list, List.set]
    refine Drawn.take 8 (some 26) (v := ?_) rfl rfl (by kernel_rfl) (by kernel_rfl) (by kernel_rfl) (by kernel_rfl) (by kernel_rfl) rfl (fun _ _ _ h => h) (Or.inl ⟨rfl, ?_⟩) H0 ?_
    rotate_left
    · intro W hW; have hW := HS.out W hW; go_simp; try with_reducible rfl
    simp only [put_list, List.set]
    refine Drawn.only 9 (by kernel_rfl) rfl rfl (fun K hK => ?_)
    go_simp
    refine hK _ _ (fun _ _ => M1.call ((Below.refl _ _).alloc (Nat.le_refl _) _)) ?_
    clear hK K H0 HS
    have M2 := M1.alloc (rO ReplyP.zero)
    unfold rO at M2
    rw [zeroCells] at M2
    obtain ⟨q, hq⟩ : ∃ q, q = V1.heap.size := ⟨_, rfl⟩
    rw [← hq] at M2 ⊢
    have hne : W.heap.size + 2 < q := by rw [hq]; exact lt_of (M1.at (q := W.heap.size + 2) (o := tO) (List.mem_cons_self ..))
    clear hq M1
    generalize World.alloc V1 _ = V2 at M2 ⊢
    try simp only [put_list, List.set]
    have k := M2.at (q := q) (List.mem_cons_self ..)
    obtain ⟨⟨g0, g1, g2, g3, g4, g5, g6, g7, g8, g9, g10⟩, e0, e1, e2, e3, e4, e5, e6, e7, e8, e9, e10⟩ := cells11 k
    clear k
    refine Drawn.only 10 (by kernel_rfl) rfl rfl (fun K hK => ?_)
    go_simp
    have M3 := M2.put11 (r := ReplyP.zero) rr (by intro x hx; simp only [List.mem_cons, List.not_mem_nil, or_false] at hx; rcases hx with rfl | rfl | rfl <;> simp <;> omega) rfl
    refine hK _ _ (fun _ _ => M3.sub (fun x hx => List.mem_cons_of_mem _ hx)) ?_
    clear hK K g0 g1 g2 g3 g4 g5 g6 g7 g8 g9 g10 e0 e1 e2 e3 e4 e5 e6 e7 e8 e9 e10 M2
    generalize World.setCell _ _ _ = V3 at M3 ⊢
    try simp only [put_list, put_none, List.set]
    refine Drawn.only 11 (by kernel_rfl) rfl rfl (fun K hK => ?_)
    go_simp
    refine hK _ _ (fun _ _ => M3.sub (fun x hx => List.mem_cons_of_mem _ hx)) ?_
    clear hK K
    try simp only [put_list, put_none, List.set]
    refine Drawn.done (by kernel_rfl) ?_ _
    cases hg : getK c.known a with
    | some r =>
      have hrr := HRR.out
      have hok := HOK.out
      rw [hg] at hrr hok
      clear HRR HOK
      obtain rfl : rr = r := hrr
      obtain rfl : ok = true := hok
      obtain ⟨⟨g0, g1, g2, g3, g4, g5, g6, g7, g8, g9, g10⟩, _⟩ := cells11 (M3.at (q := q) (List.mem_cons_self ..))
      have P1 := Lib.hid (fun V => part_val rr V)
      unfold replyV at P1
      have HM3 := Lib.hid M3
      have HG := Lib.hid (askP_known (name := name) (p := p) HK.out.2 hg)
      clear M3 hg
      go_wp2_with fail
      refine (P1.out _).mono ?_
      rintro e V4 ⟨rfl, hb⟩
      have M4 := HM3.out.call hb
      clear HM3 hb g0 g1 g2 g3 g4 g5 g6 g7 g8 g9 g10
      obtain ⟨⟨k0, k1, k2, k3⟩, d0, d1, d2, d3⟩ := cells4 (M4.at (q := W.heap.size + 1) (o := tO) (List.mem_cons_of_mem _ (List.mem_cons_of_mem _ (List.mem_cons_self ..))))
      have HM4 := Lib.hid M4
      clear M4
      unfold valC
      go_wp2_with fail
      obtain ⟨q1, q2⟩ := fin HM4.out (List.mem_cons_of_mem _ (List.mem_cons_of_mem _ (List.mem_cons_self ..))) _ _ _ _ rfl
      rw [HG.out]
      exact bodyPost_ret (results_cell_slot Tryz.results118 _ _ _ _ _ _ _ _ rfl rfl q1 Tryz.underlying61 rfl (by kernel_rfl)) rfl ⟨rfl, q2.any (by omega)⟩
    | none =>
      have hok := HOK.out
      rw [hg] at hok
      obtain rfl : ok = false := hok
      have HG := Lib.hid (askP_new (name := name) (p := p) HK.out.2 hg)
      replace M3 := M3.sub (L' := [(W.heap.size + 2, tO), (W.heap.size + 1, tO), (W.heap.size, aO a)]) (fun x hx => List.mem_cons_of_mem _ hx)
      obtain ⟨⟨x0, x1, x2, x3, x4, x5, x6⟩, _⟩ := cells7 (M3.at (q := W.heap.size) (o := aO a) (List.mem_cons_of_mem _ (List.mem_cons_of_mem _ (List.mem_cons_self ..))))
      have HM3 := Lib.hid M3
      have L1 := Lib.hid (LC.out _ _ M3.bo HK.out.1)
      unfold askV at L1
      clear M3 hg LC HOK
      go_wp2_with fail
      refine L1.out.mono ?_
      have hzz := learnP_zero (name := name) (p := p) (c := c) (a := a)
      rw [← HG.out] at hzz ⊢
      rintro e V4 ⟨he, F4, sv4, av4, hB, hC⟩
      have M4 := HM3.out.step hB hC
      clear HM3 hB hC x0 x1 x2 x3 x4 x5 x6 L1
      generalize hres : askP name p c a = res at *
      obtain ⟨⟨r9, e9⟩, p9, c9⟩ := res
      have HR := Lib.hid hres
      clear hres
      simp only at M4 he hzz
      subst he
      have HZZ := Lib.hid hzz
      clear hzz
      have M5 := M4.alloc (rO r9)
      unfold rO at M5
      unfold replyV
      unfold replyCells at M5
      by_cases h0 : e9 = 0
      · subst h0
        have P1 := Lib.hid (fun V => part_val r9 V)
        unfold replyV at P1
        have HM5 := Lib.hid M5
        clear M4 M5
        go_wp2_with fail
        refine (P1.out _).mono ?_
        rintro e V6 ⟨rfl, hb⟩
        have M6 := HM5.out.call hb
        clear HM5 hb
        obtain ⟨⟨k0, k1, k2, k3⟩, d0, d1, d2, d3⟩ := cells4 (M6.at (q := W.heap.size + 1) (o := tO) (List.mem_cons_of_mem _ (List.mem_cons_of_mem _ (List.mem_cons_self ..))))
        have HM6 := Lib.hid M6
        clear M6
        unfold valC
        go_wp2_with fail
        obtain ⟨q1, q2⟩ := fin HM6.out (List.mem_cons_of_mem _ (List.mem_cons_of_mem _ (List.mem_cons_self ..))) _ _ _ _ rfl
        rw [HR.out]
        exact bodyPost_ret (results_cell_slot Tryz.results118 _ _ _ _ _ _ _ _ rfl rfl q1 Tryz.underlying61 rfl (by kernel_rfl)) rfl ⟨rfl, q2⟩
      · obtain rfl : r9 = ReplyP.zero := HZZ.out h0
        obtain ⟨⟨h0, h1, h2, h3⟩, _⟩ := cells4 (M5.at (q := W.heap.size + 2) (o := tO) (List.mem_cons_of_mem _ (List.mem_cons_self ..)))
        obtain ⟨⟨k0, k1, k2, k3⟩, d0, d1, d2, d3⟩ := cells4 (M5.at (q := W.heap.size + 1) (o := tO) (List.mem_cons_of_mem _ (List.mem_cons_of_mem _ (List.mem_cons_self ..))))
        have HM5 := Lib.hid M5
        clear M4 M5
        go_wp2_with fail
        obtain ⟨q1, q2⟩ := fin HM5.out (List.mem_cons_of_mem _ (List.mem_cons_of_mem _ (List.mem_cons_self ..))) _ _ _ _ rfl
        rw [HR.out]
        simp only [zero_is]
        exact bodyPost_ret (results_cell_slot Tryz.results118 _ _ _ _ _ _ _ _ rfl rfl q1 Tryz.underlying61 rfl (by kernel_rfl)) rfl ⟨rfl, q2⟩
  · have hz : ¬ ((str a.addr).size : Int) = 20 := by rw [str_size]; omega
    have HG := Lib.hid (askP_short (name := name) (p := p) (c := c) (a := a) hl)
    obtain ⟨⟨h0, h1, h2, h3⟩, _⟩ := cells4 (HM.at (q := W.heap.size + 2) (o := tO) (List.mem_cons_self ..))
    obtain ⟨⟨k0, k1, k2, k3⟩, d0, d1, d2, d3⟩ := cells4 (HM.at (q := W.heap.size + 1) (o := tO) (List.mem_cons_of_mem _ (List.mem_cons_self ..)))
    have HMM := Lib.hid HM
    clear HM hl LC
    go_wp2_with fail
    obtain ⟨q1, q2⟩ := fin HMM.out (List.mem_cons_of_mem _ (List.mem_cons_self ..)) _ _ _ _ rfl
    rw [HG.out]
    simp only [zero_is]
    exact bodyPost_ret (results_cell_slot Tryz.results118 _ _ _ _ _ _ _ _ rfl rfl q1 Tryz.underlying61 rfl (by kernel_rfl)) rfl ⟨rfl, q2.any (by omega)⟩
end
end val
end Go.Proofs.YtekoaheiapddiaaGreat.Dz
end
section
namespace Go.Proofs.YtekoaheiapddiaaGreat.Dz
open Go.RowKit
section
variable {p : Pd} {c : Cl} {name : Nm} {d N : Nat} {F : Nat → Prop} {b m : Nat} {sv av : Value} {W : World}
theorem acc.fin0 {F0 : Nat → Prop} {V V' : World} {c' : Cl} {p' : Pd} {N' : Nat} {F' : Nat → Prop} {sv' av' : Value} {L : List (Nat × Obj)} {q : Nat} (h : Am p' c' name d N' F' b m sv' av' W F0 L V) (hm : (q, acc.tO) ∈ L) (u0 u1 u2 u3 u4 u5 : Value)
    (hV : V' = ((((((V.setCell ⟨q, 0, none⟩ u0).setCell ⟨q, 1, none⟩ u1).setCell ⟨q, 2, none⟩ u2).setCell ⟨q, 3, none⟩ u3).setCell ⟨q, 4, none⟩ u4).setCell ⟨q, 5, none⟩ u5)) : V'.heap[q]? = some (.cells #[u0, u1, u2, u3, u4, u5] 82 (0, 0)) ∧ Gone (p', c') name d N' b m F0 W V' := by
  subst hV
  have hb : V.heap[q]? = some acc.tO := h.at hm
  have hs := set6 hb u0 u1 u2 u3 u4 u5
  exact ⟨hs, Gone.mk ((h.sub (L' := [(q, acc.tO)]) (fun x hx => by obtain rfl := List.mem_singleton.1 hx; exact hm)).put (chg_set6 V q u0 u1 u2 u3 u4 u5) hs (by simp))⟩
set_option maxRecDepth 100000 in
set_option maxHeartbeats 4000000 in
theorem acct_c (h : Bo p c name d N F b m sv av W) (addr : List UInt8) (hn : c.asked.length ≤ 1000000) (hN : N < 900000) (hs : name.length ≤ 1000000) :
    Calls Tryz.prog 51 #[.pointer (some ⟨b, 0, none⟩), .string (str addr)] W fun e W' => e = .returned (.tuple #[.agg (accC (askP name p c ⟨0, addr, 0, 1⟩).1.1), .int .i64 (askP name p c ⟨0, addr, 0, 1⟩).1.2]) ∧ Gone (askP name p c ⟨0, addr, 0, 1⟩).2 name d (N + 4) b m (ftB F b m sv av) W W' := by
  have HM := Am.alloc (Am.alloc (Am.start h) acc.tO) (aO ⟨0, addr, 0, 1⟩)
  rw [alloc_size] at HM
  have LC := Lib.hid (fun V (k : Bo p c name d N F b m sv av V) => acc.ask_c k (a := ⟨0, addr, 0, 1⟩) (⟨by show 0 < M64; unfold M64; omega, by show 0 < W256; decide, by show -9223372036854775808 ≤ (1 : Int) ∧ (1 : Int) ≤ 9223372036854775807; omega⟩) rfl (Or.inr ⟨rfl, rfl⟩) hn hN hs)
  rw [show askV ⟨0, addr, 0, 1⟩ = .agg #[.int .u64 0, .string (str addr), .int .u64 0, .int .u64 0, .int .u64 0, .int .u64 0, .int .i64 1] from by simp [lim_zero, askV]] at LC
  unfold aO at HM
  rw [show askCells ⟨0, addr, 0, 1⟩ = #[.int .u64 0, .string (str addr), .int .u64 0, .int .u64 0, .int .u64 0, .int .u64 0, .int .i64 1] from by simp [lim_zero, askCells]] at HM
  generalize hres : askP name p c ⟨0, addr, 0, 1⟩ = res at *
  obtain ⟨⟨r9, e9⟩, p9, c9⟩ := res
  simp only at LC ⊢
  clear h hn hN hs hres
  have L1 := Lib.hid (LC.out _ HM.bo)
  have HMM := Lib.hid HM
  clear HM LC
  skip
  go_enter Tryz.func51, Tryz.ntmps51
  go_wp2_with fail
  refine L1.out.mono ?_
  rintro e V1 ⟨rfl, F1, sv1, av1, hB, hC⟩
  have M1 := HMM.out.step hB hC
  clear HMM hB hC L1
  obtain ⟨⟨k0, k1, k2, k3, k4, k5⟩, d0, d1, d2, d3, d4, d5⟩ := cells6 (M1.at (q := W.heap.size) (o := acc.tO) (List.mem_cons_of_mem _ (List.mem_cons_self ..)))
  have HM1 := Lib.hid M1
  clear M1
  unfold accC
  go_wp2_with fail
  obtain ⟨q1, q2⟩ := acc.fin0 HM1.out (List.mem_cons_of_mem _ (List.mem_cons_self ..)) _ _ _ _ _ _ rfl
  exact bodyPost_ret (results_cell_slot Tryz.results51 _ _ _ _ _ _ _ _ rfl rfl q1 Tryz.underlying82 rfl (by kernel_rfl)) rfl ⟨rfl, q2⟩
theorem val.fin0 {F0 : Nat → Prop} {V V' : World} {c' : Cl} {p' : Pd} {N' : Nat} {F' : Nat → Prop} {sv' av' : Value} {L : List (Nat × Obj)} {q : Nat} (h : Am p' c' name d N' F' b m sv' av' W F0 L V) (hm : (q, val.tO) ∈ L) (u0 u1 u2 u3 : Value)
    (hV : V' = ((((V.setCell ⟨q, 0, none⟩ u0).setCell ⟨q, 1, none⟩ u1).setCell ⟨q, 2, none⟩ u2).setCell ⟨q, 3, none⟩ u3)) : V'.heap[q]? = some (.cells #[u0, u1, u2, u3] 61 (0, 0)) ∧ Gone (p', c') name d N' b m F0 W V' := by
  subst hV
  have hb : V.heap[q]? = some val.tO := h.at hm
  have hs := heap_set4 hb u0 u1 u2 u3
  exact ⟨hs, Gone.mk ((h.sub (L' := [(q, val.tO)]) (fun x hx => by obtain rfl := List.mem_singleton.1 hx; exact hm)).put (chg_set4 V q u0 u1 u2 u3) hs (by simp))⟩
set_option maxRecDepth 100000 in
set_option maxHeartbeats 4000000 in
theorem slot_c (h : Bo p c name d N F b m sv av W) (addr : List UInt8) (n : Nat) (hn9 : n < W256) (hn : c.asked.length ≤ 1000000) (hN : N < 900000) (hs : name.length ≤ 1000000) :
    Calls Tryz.prog 63 #[.pointer (some ⟨b, 0, none⟩), .string (str addr), wordV n] W fun e W' => e = .returned (.tuple #[.agg (valC (askP name p c ⟨0, addr, n, 2⟩).1.1), .int .i64 (askP name p c ⟨0, addr, n, 2⟩).1.2]) ∧ Gone (askP name p c ⟨0, addr, n, 2⟩).2 name d (N + 4) b m (ftB F b m sv av) W W' := by
  have H0 := Am.alloc (Am.alloc (Am.start h) (.cells #[.int .u64 (l3 n : Nat), .int .u64 (l2 n : Nat), .int .u64 (l1 n : Nat), .int .u64 (l0 n : Nat)] 61)) val.tO
  have HM := Am.alloc H0 (aO ⟨0, addr, n, 2⟩)
  rw [alloc_size, alloc_size] at HM
  rw [alloc_size] at H0
  have hq0 := (cells4 (H0.at (q := W.heap.size) (List.mem_cons_of_mem _ (List.mem_cons_self ..)))).1
  obtain ⟨y0, y1, y2, y3⟩ := hq0
  clear H0
  have LC := Lib.hid (fun V (k : Bo p c name d N F b m sv av V) => val.ask_c k (a := ⟨0, addr, n, 2⟩) (⟨by show 0 < M64; unfold M64; omega, hn9, by show -9223372036854775808 ≤ (2 : Int) ∧ (2 : Int) ≤ 9223372036854775807; omega⟩) rfl (Or.inl rfl) hn hN hs)
  rw [show askV ⟨0, addr, n, 2⟩ = .agg #[.int .u64 0, .string (str addr), .int .u64 (l3 n : Nat), .int .u64 (l2 n : Nat), .int .u64 (l1 n : Nat), .int .u64 (l0 n : Nat), .int .i64 2] from by simp [askV]] at LC
  unfold aO at HM
  rw [show askCells ⟨0, addr, n, 2⟩ = #[.int .u64 0, .string (str addr), .int .u64 (l3 n : Nat), .int .u64 (l2 n : Nat), .int .u64 (l1 n : Nat), .int .u64 (l0 n : Nat), .int .i64 2] from by simp [askCells]] at HM
  generalize hres : askP name p c ⟨0, addr, n, 2⟩ = res at *
  obtain ⟨⟨r9, e9⟩, p9, c9⟩ := res
  simp only at LC ⊢
  clear h hn hN hs hres hn9
  have L1 := Lib.hid (LC.out _ HM.bo)
  have HMM := Lib.hid HM
  clear HM LC
  unfold wordV
  go_enter Tryz.func63, Tryz.ntmps63
  go_wp2_with fail
  refine L1.out.mono ?_
  rintro e V1 ⟨rfl, F1, sv1, av1, hB, hC⟩
  have M1 := HMM.out.step hB hC
  clear HMM hB hC L1
  obtain ⟨⟨k0, k1, k2, k3⟩, d0, d1, d2, d3⟩ := cells4 (M1.at (q := W.heap.size + 1) (o := val.tO) (List.mem_cons_of_mem _ (List.mem_cons_self ..)))
  have HM1 := Lib.hid M1
  clear M1
  unfold valC
  go_wp2_with fail
  obtain ⟨q1, q2⟩ := val.fin0 HM1.out (List.mem_cons_of_mem _ (List.mem_cons_self ..)) _ _ _ _ rfl
  exact bodyPost_ret (results_cell_slot Tryz.results63 _ _ _ _ _ _ _ _ rfl rfl q1 Tryz.underlying61 rfl (by kernel_rfl)) rfl ⟨rfl, q2⟩
end
end Go.Proofs.YtekoaheiapddiaaGreat.Dz
end
