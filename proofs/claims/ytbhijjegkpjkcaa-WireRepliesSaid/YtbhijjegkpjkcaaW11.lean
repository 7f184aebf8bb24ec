/- Merged: Vh, Vk, Vi, Lr8. -/
import Derived.Test.YtbhijjegkpjkcaaW10
import Derived.Test.YtbhijjegkpjkcaaW08
section
namespace Go.Proofs.Ytbhijjegkpjkcaa
open Go.RowKit
theorem enterN (args : Array Value) (w : World) : (callFunc 47 args).run Try.prog w = .ok (.enter 47 args) w := enters_of Try.func47 (by kernel_rfl) rfl args w
theorem enterT (args : Array Value) (w : World) : (callFunc 48 args).run Try.prog w = .ok (.enter 48 args) w := enters_of Try.func48 (by kernel_rfl) rfl args w
theorem enterW (args : Array Value) (w : World) : (callFunc 49 args).run Try.prog w = .ok (.enter 49 args) w := enters_of Try.func49 (by kernel_rfl) rfl args w
def fN (g : Nat) : Value := .func (.func 47) #[.pointer (some ⟨g, 0, none⟩)] #[]
def fT (g : Nat) : Value := .func (.func 48) #[.pointer (some ⟨g, 0, none⟩)] #[]
def fW (g : Nat) : Value := .func (.func 49) #[.pointer (some ⟨g, 0, none⟩)] #[]
set_option maxRecDepth 100000 in
set_option maxHeartbeats 4000000 in
theorem ask_c {S : Nat → Prop} {g : Nat} {f : Fo} {w : World} (h : Fd S g f w) (hl : f.enc.length ≤ 70000) : Calls Try.prog 28 #[fN g, fT g, fW g] w fun e w' => AskR g f w e w' := by
  have G0 := Lib.hid (Gt.start h #[.int .u64 0, .string ⟨#[]⟩, .int .u64 0, .int .u64 0, .int .u64 0, .int .u64 0, .int .i64 0] 26)
  have HL := Lib.hid hl
  have eN := enterN
  have eT := enterT
  have eW := enterW
  clear h hl
  unfold fN fT fW
  go_enter Try.func28, Try.ntmps28
  go_wp2_with fail
  refine (number_f G0.out.fd HL.out).mono ?_
  rintro e w1 ⟨ho, h1⟩
  cases e1 : numO f with
  | none =>
    rw [e1] at h1
    obtain rfl : e = .panicked boom := h1
    exact ⟨rfl, AskR.bad (G0.out.only.trans (ho.mono G0.out.only.size (fun _ _ k => k))) rfl (fun b hw hb hf => by rw [hf, (ask_steps hw hb).1] at e1; cases e1)⟩
  | some q =>
    obtain ⟨v1, f1⟩ := q
    rw [e1] at h1
    obtain ⟨rfl, hf1⟩ := h1
    obtain ⟨n1, rfl, hn1, hl1⟩ := numO_some e1
    have G1 := Lib.hid (G0.out.step ho hf1)
    have HL1 := Lib.hid (show f1.enc.length ≤ 70000 by have := HL.out; omega)
    have E1 := Lib.hid e1
    have HN1 := Lib.hid hn1
    clear ho hf1 hl1 e1 hn1 G0
    go_wp2_with fail
    refine (number_f G1.out.fd HL1.out).mono ?_
    rintro e w2 ⟨ho, h1⟩
    cases e2 : numO f1 with
    | none =>
      rw [e2] at h1
      obtain rfl : e = .panicked boom := h1
      exact ⟨rfl, AskR.bad (G1.out.only.trans (ho.mono G1.out.only.size (fun _ _ k => k))) rfl (fun b hw hb hf => by
        have h := E1.out
        rw [hf, (ask_steps hw hb).1] at h
        simp only [Option.some.injEq, Prod.mk.injEq] at h
        rw [← h.2, (ask_steps hw hb).2.1] at e2
        cases e2)⟩
    | some q =>
      obtain ⟨v2, f2⟩ := q
      rw [e2] at h1
      obtain ⟨rfl, hf1⟩ := h1
      obtain ⟨n2, rfl, hn2, hl1⟩ := numO_some e2
      have G2 := Lib.hid (G1.out.step ho hf1)
      have HL2 := Lib.hid (show f2.enc.length ≤ 70000 by have := HL1.out; omega)
      have E2 := Lib.hid e2
      have HN2 := Lib.hid hn2
      clear ho hf1 hl1 e2 hn2 G1
      go_wp2_with fail
      refine (text_f G2.out.fd HL2.out).mono ?_
      rintro e w3 ⟨ho, h1⟩
      cases e3 : textO f2 with
      | none =>
        rw [e3] at h1
        obtain rfl : e = .panicked boom := h1
        exact ⟨rfl, AskR.bad (G2.out.only.trans (ho.mono G2.out.only.size (fun _ _ k => k))) rfl (fun b hw hb hf => by
          have h := E1.out
          rw [hf, (ask_steps hw hb).1] at h
          simp only [Option.some.injEq, Prod.mk.injEq] at h
          have h2 := E2.out
          rw [← h.2, (ask_steps hw hb).2.1] at h2
          simp only [Option.some.injEq, Prod.mk.injEq] at h2
          rw [← h2.2, (ask_steps hw hb).2.2.1] at e3
          cases e3)⟩
      | some q =>
        obtain ⟨v3, f3⟩ := q
        rw [e3] at h1
        obtain ⟨rfl, hf1⟩ := h1
        obtain ⟨t3, rfl, hl1⟩ := textO_some e3
        have G3 := Lib.hid (G2.out.step ho hf1)
        have HL3 := Lib.hid (show f3.enc.length ≤ 70000 by have := HL2.out; omega)
        have HT := Lib.hid (fun (b : AskP) (hw : b.Wf) (hb : b.Ok) (hf : f = b.fo) => show n1 = b.id ∧ (n2 : Int) = b.kind ∧ t3 = b.addr ∧ f3 = (if b.kind = 2 then .text (wordL b.slot) .nil else .nil) from by
          have h := E1.out
          rw [hf, (ask_steps hw hb).1] at h
          simp only [Option.some.injEq, Prod.mk.injEq, Value.int.injEq, true_and, Int.natCast_inj] at h
          have h2 := E2.out
          rw [← h.2, (ask_steps hw hb).2.1] at h2
          simp only [Option.some.injEq, Prod.mk.injEq, Value.int.injEq, true_and, Int.natCast_inj] at h2
          have h3 := e3
          rw [← h2.2, (ask_steps hw hb).2.2.1] at h3
          simp only [Option.some.injEq, Prod.mk.injEq, Value.string.injEq] at h3
          have hk := hb.2
          exact ⟨h.1.symm, by omega, (str_inj h3.1).symm, h3.2.symm⟩)
        have HW := Lib.hid (And.intro HN1.out HN2.out)
        clear ho hf1 hl1 e3 G2 E1 E2 HN1 HN2
        have hz2 : (n2 = 1 → wrap64 (n2 : Int) = 1) ∧ (n2 = 2 → wrap64 (n2 : Int) = 2) := ⟨fun h => by rw [h]; unfold wrap64; omega, fun h => by rw [h]; unfold wrap64; omega⟩
        have hzb : -9223372036854775808 ≤ wrap64 (n2 : Int) ∧ wrap64 (n2 : Int) ≤ 9223372036854775807 := by unfold wrap64; omega
        generalize wrap64 (n2 : Int) = kz at *
        have HZ := Lib.hid (And.intro hz2 hzb)
        clear hz2 hzb
        by_cases hk : kz = 2
        · subst hk
          have hal : Below w3.heap.size w3 (w3.alloc (.cells #[.int .u64 n1, .string (str t3), .int .u64 0, .int .u64 0, .int .u64 0, .int .u64 0, .int .i64 2] 26)) := (Below.refl _ _).alloc (Nat.le_refl _) _
          have G4 := Lib.hid (G3.out.call hal)
          have N4 := Lib.hid (heap_alloc_new w3 (.cells #[.int .u64 n1, .string (str t3), .int .u64 0, .int .u64 0, .int .u64 0, .int .u64 0, .int .i64 2] 26))
          have hgl : g < w3.heap.size := Nat.lt_of_lt_of_le G3.out.lt G3.out.only.size
          have hbl := lt_of G3.out.box
          have hge3 := G3.out.only.size
          clear hal
          go_wp2_with fail
          refine (word_f G4.out.fd HL3.out).mono ?_
          rintro e w4 ⟨ho, h1⟩
          cases e4 : wordO f3 with
          | none =>
            rw [e4] at h1
            obtain rfl : e = .panicked boom := h1
            exact ⟨rfl, AskR.bad (G4.out.only.trans (ho.mono G4.out.only.size (fun _ _ k => k))) rfl (fun b hw hb hf => by
              obtain ⟨_, q2, _, q4⟩ := HT.out b hw hb hf
              have hs := ask_steps hw hb
              have hk : b.kind = 2 := by
                rcases hs.2.2.2.2.1 with h | h
                · have := HZ.out.1.1 (by omega); omega
                · exact h
              have h5 := hs.2.2.2.1 hk
              rw [← q4, e4] at h5
              cases h5)⟩
          | some q =>
            obtain ⟨v4, f4⟩ := q
            rw [e4] at h1
            obtain ⟨rfl, hf1⟩ := h1
            obtain ⟨n4, rfl, hn4⟩ := wordO_some e4
            have G5 := Lib.hid (G4.out.step ho hf1)
            have N5 := (ho.block w3.heap.size (by simp) (by omega)).trans N4.out
            have HE := Lib.hid (And.intro e4 hn4)
            clear ho hf1 e4 hn4
            unfold wordV
            -- the cells of both boxes behind the store
            have k5 := G5.out.box
            obtain ⟨_, z0, z1, z2, z3, z4, z5, z6⟩ := cells7 N5
            obtain ⟨⟨p0, p1, p2, p3, p4, p5, p6⟩, _⟩ := cells7 N5
            have N6 : ((((w4.setCell ⟨w3.heap.size, 2, none⟩ (.int .u64 (l3 n4 : Nat))).setCell ⟨w3.heap.size, 3, none⟩ (.int .u64 (l2 n4 : Nat))).setCell ⟨w3.heap.size, 4, none⟩ (.int .u64 (l1 n4 : Nat))).setCell ⟨w3.heap.size, 5, none⟩ (.int .u64 (l0 n4 : Nat))).heap[w3.heap.size]? = some (.cells #[.int .u64 n1, .string (str t3), .int .u64 (l3 n4 : Nat), .int .u64 (l2 n4 : Nat), .int .u64 (l1 n4 : Nat), .int .u64 (l0 n4 : Nat), .int .i64 2] 26 (0, 0)) := by
              have e := heap_setCell_same _ _ 5 _ _ (.int .u64 (l0 n4 : Nat)) (heap_setCell_same _ _ 4 _ _ (.int .u64 (l1 n4 : Nat)) (heap_setCell_same _ _ 3 _ _ (.int .u64 (l2 n4 : Nat)) (heap_setCell_same _ _ 2 _ _ (.int .u64 (l3 n4 : Nat)) N5)))
              simpa using e
            have K6 : ((((w4.setCell ⟨w3.heap.size, 2, none⟩ (.int .u64 (l3 n4 : Nat))).setCell ⟨w3.heap.size, 3, none⟩ (.int .u64 (l2 n4 : Nat))).setCell ⟨w3.heap.size, 4, none⟩ (.int .u64 (l1 n4 : Nat))).setCell ⟨w3.heap.size, 5, none⟩ (.int .u64 (l0 n4 : Nat))).heap[w.heap.size]? = some (.cells #[.int .u64 0, .string ⟨#[]⟩, .int .u64 0, .int .u64 0, .int .u64 0, .int .u64 0, .int .i64 0] 26 (0, 0)) := by
              rw [heap_setCell_other _ _ _ _ (by simp; omega), heap_setCell_other _ _ _ _ (by simp; omega), heap_setCell_other _ _ _ _ (by simp; omega), heap_setCell_other _ _ _ _ (by simp; omega)]
              exact k5
            have O6 : Only (fun k => k = g) w.heap.size w ((((w4.setCell ⟨w3.heap.size, 2, none⟩ (.int .u64 (l3 n4 : Nat))).setCell ⟨w3.heap.size, 3, none⟩ (.int .u64 (l2 n4 : Nat))).setCell ⟨w3.heap.size, 4, none⟩ (.int .u64 (l1 n4 : Nat))).setCell ⟨w3.heap.size, 5, none⟩ (.int .u64 (l0 n4 : Nat))) :=
              (((G5.out.only.setCell (p := ⟨w3.heap.size, 2, none⟩) (Or.inl hge3) _).setCell (p := ⟨w3.heap.size, 3, none⟩) (Or.inl hge3) _).setCell (p := ⟨w3.heap.size, 4, none⟩) (Or.inl hge3) _).setCell (p := ⟨w3.heap.size, 5, none⟩) (Or.inl hge3) _
            obtain ⟨⟨a0, a1, a2, a3, a4, a5, a6⟩, _⟩ := cells7 N6
            obtain ⟨⟨b0, b1, b2, b3, b4, b5, b6⟩, y0, y1, y2, y3, y4, y5, y6⟩ := cells7 K6
            have H6 := Lib.hid (And.intro K6 O6)
            clear N6 K6 O6 k5 N5 hgl hbl
            go_wp2_with fail
            refine bodyPost_ret (results_cell_row Try.results28 _ _ _ _ _ _ _ rfl (set7 H6.out.1 _ _ _ _ _ _ _) Try.underlying26 rfl (by kernel_rfl)) rfl (AskR.good ⟨n1, t3, n4, 2⟩ ?_ rfl ⟨HW.out.1, HE.out.2, (show (-9223372036854775808 : Int) ≤ 2 ∧ (2 : Int) ≤ 9223372036854775807 by decide)⟩ ?_)
            · exact ((((((H6.out.2.setCell (p := ⟨w.heap.size, 0, none⟩) (Or.inl (Nat.le_refl _)) _).setCell (p := ⟨w.heap.size, 1, none⟩) (Or.inl (Nat.le_refl _)) _).setCell (p := ⟨w.heap.size, 2, none⟩) (Or.inl (Nat.le_refl _)) _).setCell (p := ⟨w.heap.size, 3, none⟩) (Or.inl (Nat.le_refl _)) _).setCell (p := ⟨w.heap.size, 4, none⟩) (Or.inl (Nat.le_refl _)) _).setCell (p := ⟨w.heap.size, 5, none⟩) (Or.inl (Nat.le_refl _)) _).setCell (p := ⟨w.heap.size, 6, none⟩) (Or.inl (Nat.le_refl _)) _
            · intro b hw hb hf
              obtain ⟨q1, q2, q3, q4⟩ := HT.out b hw hb hf
              have hs := ask_steps hw hb
              have hk : b.kind = 2 := by
                rcases hs.2.2.2.2.1 with h | h
                · have := HZ.out.1.1 (by omega); omega
                · exact h
              have h5 := hs.2.2.2.1 hk
              rw [← q4, HE.out.1] at h5
              simp only [Option.some.injEq, Prod.mk.injEq] at h5
              have e4 := wordV_inj HE.out.2 hw.slot h5.1
              obtain ⟨i, ad, sl, kd⟩ := b
              simp only at q1 q3 hk e4
              rw [q1, q3, hk, e4]
        · have hkb : (kz == 2) = false := by simp [hk]
          have kb := (Below.heap_alloc w3 (.cells #[.int .u64 n1, .string (str t3), .int .u64 0, .int .u64 0, .int .u64 0, .int .u64 0, .int .i64 kz] 26) _ (lt_of G3.out.box)).trans G3.out.box
          obtain ⟨⟨b0, b1, b2, b3, b4, b5, b6⟩, y0, y1, y2, y3, y4, y5, y6⟩ := cells7 kb
          have H6 := Lib.hid (And.intro kb (G3.out.only.alloc G3.out.only.size (.cells #[.int .u64 n1, .string (str t3), .int .u64 0, .int .u64 0, .int .u64 0, .int .u64 0, .int .i64 kz] 26)))
          clear kb
          go_wp2_with fail
          refine bodyPost_ret (results_cell_row Try.results28 _ _ _ _ _ _ _ rfl (set7 H6.out.1 _ _ _ _ _ _ _) Try.underlying26 rfl (by kernel_rfl)) rfl (AskR.good ⟨n1, t3, 0, kz⟩ ?_ (by unfold askV; simp [lim_zero]) ⟨HW.out.1, (show 0 < W256 by decide), HZ.out.2⟩ ?_)
          · exact ((((((H6.out.2.setCell (p := ⟨w.heap.size, 0, none⟩) (Or.inl (Nat.le_refl _)) _).setCell (p := ⟨w.heap.size, 1, none⟩) (Or.inl (Nat.le_refl _)) _).setCell (p := ⟨w.heap.size, 2, none⟩) (Or.inl (Nat.le_refl _)) _).setCell (p := ⟨w.heap.size, 3, none⟩) (Or.inl (Nat.le_refl _)) _).setCell (p := ⟨w.heap.size, 4, none⟩) (Or.inl (Nat.le_refl _)) _).setCell (p := ⟨w.heap.size, 5, none⟩) (Or.inl (Nat.le_refl _)) _).setCell (p := ⟨w.heap.size, 6, none⟩) (Or.inl (Nat.le_refl _)) _
          · intro b hw hb hf
            obtain ⟨q1, q2, q3, q4⟩ := HT.out b hw hb hf
            have hs := ask_steps hw hb
            have hk1 : b.kind = 1 := by
              rcases hs.2.2.2.2.1 with h | h
              · exact h
              · exact absurd (HZ.out.1.2 (by omega)) hk
            have hkz : kz = 1 := HZ.out.1.1 (by omega)
            have h0 := hs.2.2.2.2.2 hk1
            obtain ⟨i, ad, sl, kd⟩ := b
            simp only at q1 q3 hk1 h0
            rw [q1, q3, hk1, h0, hkz]
end Go.Proofs.Ytbhijjegkpjkcaa
end
section
namespace Go.Proofs.Ytbhijjegkpjkcaa
open Go.RowKit

theorem set11 {w : World} {b : Nat} {v0 v1 v2 v3 v4 v5 v6 v7 v8 v9 v10 : Value} {t : TypeId} (h : w.heap[b]? = some (.cells #[v0, v1, v2, v3, v4, v5, v6, v7, v8, v9, v10] t (0, 0))) (u0 u1 u2 u3 u4 u5 u6 u7 u8 u9 u10 : Value) :
    (((((((((((w.setCell ⟨b, 0, none⟩ u0).setCell ⟨b, 1, none⟩ u1).setCell ⟨b, 2, none⟩ u2).setCell ⟨b, 3, none⟩ u3).setCell ⟨b, 4, none⟩ u4).setCell ⟨b, 5, none⟩ u5).setCell ⟨b, 6, none⟩ u6).setCell ⟨b, 7, none⟩ u7).setCell ⟨b, 8, none⟩ u8).setCell ⟨b, 9, none⟩ u9).setCell ⟨b, 10, none⟩ u10).heap[b]? = some (.cells #[u0, u1, u2, u3, u4, u5, u6, u7, u8, u9, u10] t (0, 0)) := by
  have e := (heap_setCell_same _ _ 10 _ _ u10 (heap_setCell_same _ _ 9 _ _ u9 (heap_setCell_same _ _ 8 _ _ u8 (heap_setCell_same _ _ 7 _ _ u7 (heap_setCell_same _ _ 6 _ _ u6 (heap_setCell_same _ _ 5 _ _ u5 (heap_setCell_same _ _ 4 _ _ u4 (heap_setCell_same _ _ 3 _ _ u3 (heap_setCell_same _ _ 2 _ _ u2 (heap_setCell_same _ _ 1 _ _ u1 (heap_setCell_same _ _ 0 _ _ u0 h)))))))))))
  simpa using e
theorem cells11 {w : World} {b : Nat} {v0 v1 v2 v3 v4 v5 v6 v7 v8 v9 v10 : Value} {t : TypeId} (h : w.heap[b]? = some (.cells #[v0, v1, v2, v3, v4, v5, v6, v7, v8, v9, v10] t (0, 0))) :
    (w.cell? ⟨b, 0, none⟩ = some v0 ∧ w.cell? ⟨b, 1, none⟩ = some v1 ∧ w.cell? ⟨b, 2, none⟩ = some v2 ∧ w.cell? ⟨b, 3, none⟩ = some v3 ∧ w.cell? ⟨b, 4, none⟩ = some v4 ∧ w.cell? ⟨b, 5, none⟩ = some v5 ∧ w.cell? ⟨b, 6, none⟩ = some v6 ∧ w.cell? ⟨b, 7, none⟩ = some v7 ∧ w.cell? ⟨b, 8, none⟩ = some v8 ∧ w.cell? ⟨b, 9, none⟩ = some v9 ∧ w.cell? ⟨b, 10, none⟩ = some v10) ∧ (w.frozen? ⟨b, 0, none⟩ = false ∧ w.frozen? ⟨b, 1, none⟩ = false ∧ w.frozen? ⟨b, 2, none⟩ = false ∧ w.frozen? ⟨b, 3, none⟩ = false ∧ w.frozen? ⟨b, 4, none⟩ = false ∧ w.frozen? ⟨b, 5, none⟩ = false ∧ w.frozen? ⟨b, 6, none⟩ = false ∧ w.frozen? ⟨b, 7, none⟩ = false ∧ w.frozen? ⟨b, 8, none⟩ = false ∧ w.frozen? ⟨b, 9, none⟩ = false ∧ w.frozen? ⟨b, 10, none⟩ = false) :=
  ⟨⟨cell_of h 0, cell_of h 1, cell_of h 2, cell_of h 3, cell_of h 4, cell_of h 5, cell_of h 6, cell_of h 7, cell_of h 8, cell_of h 9, cell_of h 10⟩, free_of h 0, free_of h 1, free_of h 2, free_of h 3, free_of h 4, free_of h 5, free_of h 6, free_of h 7, free_of h 8, free_of h 9, free_of h 10⟩
theorem Only.set11 {may : Nat → Prop} {B b : Nat} {a w : World} (h : Only may B a w) (hb : B ≤ b) (u0 u1 u2 u3 u4 u5 u6 u7 u8 u9 u10 : Value) : Only may B a (((((((((((w.setCell ⟨b, 0, none⟩ u0).setCell ⟨b, 1, none⟩ u1).setCell ⟨b, 2, none⟩ u2).setCell ⟨b, 3, none⟩ u3).setCell ⟨b, 4, none⟩ u4).setCell ⟨b, 5, none⟩ u5).setCell ⟨b, 6, none⟩ u6).setCell ⟨b, 7, none⟩ u7).setCell ⟨b, 8, none⟩ u8).setCell ⟨b, 9, none⟩ u9).setCell ⟨b, 10, none⟩ u10) :=
  (((((((((((h.setCell (p := ⟨b, 0, none⟩) (Or.inl hb) u0).setCell (p := ⟨b, 1, none⟩) (Or.inl hb) u1).setCell (p := ⟨b, 2, none⟩) (Or.inl hb) u2).setCell (p := ⟨b, 3, none⟩) (Or.inl hb) u3).setCell (p := ⟨b, 4, none⟩) (Or.inl hb) u4).setCell (p := ⟨b, 5, none⟩) (Or.inl hb) u5).setCell (p := ⟨b, 6, none⟩) (Or.inl hb) u6).setCell (p := ⟨b, 7, none⟩) (Or.inl hb) u7).setCell (p := ⟨b, 8, none⟩) (Or.inl hb) u8).setCell (p := ⟨b, 9, none⟩) (Or.inl hb) u9).setCell (p := ⟨b, 10, none⟩) (Or.inl hb) u10)
theorem Below.set11 {B b : Nat} {a w : World} (h : Below B a w) (hb : B ≤ b) (u0 u1 u2 u3 u4 u5 u6 u7 u8 u9 u10 : Value) : Below B a (((((((((((w.setCell ⟨b, 0, none⟩ u0).setCell ⟨b, 1, none⟩ u1).setCell ⟨b, 2, none⟩ u2).setCell ⟨b, 3, none⟩ u3).setCell ⟨b, 4, none⟩ u4).setCell ⟨b, 5, none⟩ u5).setCell ⟨b, 6, none⟩ u6).setCell ⟨b, 7, none⟩ u7).setCell ⟨b, 8, none⟩ u8).setCell ⟨b, 9, none⟩ u9).setCell ⟨b, 10, none⟩ u10) :=
  (((((((((((h.setCell (p := ⟨b, 0, none⟩) hb u0).setCell (p := ⟨b, 1, none⟩) hb u1).setCell (p := ⟨b, 2, none⟩) hb u2).setCell (p := ⟨b, 3, none⟩) hb u3).setCell (p := ⟨b, 4, none⟩) hb u4).setCell (p := ⟨b, 5, none⟩) hb u5).setCell (p := ⟨b, 6, none⟩) hb u6).setCell (p := ⟨b, 7, none⟩) hb u7).setCell (p := ⟨b, 8, none⟩) hb u8).setCell (p := ⟨b, 9, none⟩) hb u9).setCell (p := ⟨b, 10, none⟩) hb u10)
theorem wordO_len {f r : Fo} {v : Value} (h : wordO f = some (v, r)) : r.enc.length ≤ f.enc.length := by
  cases f with
  | nil => cases h
  | list i q => simp only [wordO, Option.some.injEq, Prod.mk.injEq] at h; obtain ⟨_, rfl⟩ := h; simp only [Fo.enc, List.length_append]; omega
  | text s q =>
    simp only [wordO] at h
    split at h
    · simp only [Option.some.injEq, Prod.mk.injEq] at h; obtain ⟨_, rfl⟩ := h; simp only [Fo.enc, List.length_append]; omega
    · cases h
/-- What a reply's fields come to. -/
def RepR (kind : Int) (g : Nat) (f : Fo) (w : World) (e : Ending) (w' : World) : Prop :=
  Only (fun k => k = g) w.heap.size w w' ∧ ((e = .panicked boom ∧ ∀ b : ReplyP, b.Wf → b.Ok kind → f ≠ b.fo kind) ∨ ∃ a : ReplyP, e = .returned (replyV a) ∧ a.Wf ∧ ∀ b : ReplyP, b.Wf → b.Ok kind → f = b.fo kind → a = b)
theorem RepR.bad {kind : Int} {g : Nat} {f : Fo} {w w' : World} {e : Ending} (h1 : Only (fun k => k = g) w.heap.size w w') (h2 : e = .panicked boom) (h3 : ∀ b : ReplyP, b.Wf → b.Ok kind → f ≠ b.fo kind) : RepR kind g f w e w' := ⟨h1, Or.inl ⟨h2, h3⟩⟩
theorem RepR.good {kind : Int} {g : Nat} {f : Fo} {w w' : World} {e : Ending} (a : ReplyP) (h1 : Only (fun k => k = g) w.heap.size w w') (h2 : e = .returned (replyV a)) (h3 : a.Wf) (h4 : ∀ b : ReplyP, b.Wf → b.Ok kind → f = b.fo kind → a = b) : RepR kind g f w e w' := ⟨h1, Or.inr ⟨a, h2, h3, h4⟩⟩
theorem rep1_steps {b : ReplyP} (hw : b.Wf) : numO (b.fo 1) = some (.int .u64 b.id, .text (num b.nonce) (.text (wordL b.bal) (.text b.code .nil))) ∧ numO (.text (num b.nonce) (.text (wordL b.bal) (.text b.code .nil))) = some (.int .u64 b.nonce, .text (wordL b.bal) (.text b.code .nil)) ∧
    wordO (.text (wordL b.bal) (.text b.code .nil)) = some (wordV b.bal, .text b.code .nil) ∧ textO (.text b.code .nil) = some (.string (str b.code), .nil) :=
  ⟨numO_num hw.id _, numO_num hw.nonce _, wordO_word hw.bal _, rfl⟩
theorem rep2_steps {b : ReplyP} {kind : Int} (hk : kind ≠ 1) (hw : b.Wf) : numO (b.fo kind) = some (.int .u64 b.id, .text (wordL b.value) .nil) ∧ wordO (.text (wordL b.value) .nil) = some (wordV b.value, .nil) := by
  refine ⟨?_, wordO_word hw.value _⟩
  unfold ReplyP.fo
  rw [if_neg hk]
  exact numO_num hw.id _
set_option maxRecDepth 100000 in
set_option maxHeartbeats 4000000 in
theorem account_c {S : Nat → Prop} {g : Nat} {f : Fo} {w : World} (h : Fd S g f w) (hl : f.enc.length ≤ 70000) : Calls Try.prog 35 #[fN g, fT g, fW g] w fun e w' => RepR 1 g f w e w' := by
  have G0 := Lib.hid (Gt.start h #[.int .u64 0, .int .u64 0, .int .u64 0, .int .u64 0, .int .u64 0, .int .u64 0, .string ⟨#[]⟩, .int .u64 0, .int .u64 0, .int .u64 0, .int .u64 0] 42)
  have HL := Lib.hid hl
  have eN := enterN
  have eT := enterT
  have eW := enterW
  clear h hl
  unfold fN fT fW
  go_enter Try.func35, Try.ntmps35
  go_wp2_with fail
  refine (number_f G0.out.fd HL.out).mono ?_
  rintro e w1 ⟨ho, h1⟩
  cases e1 : numO f with
  | none =>
    rw [e1] at h1
    obtain rfl : e = .panicked boom := h1
    exact ⟨rfl, RepR.bad (G0.out.only.trans (ho.mono G0.out.only.size (fun _ _ k => k))) rfl (fun b hw hb hf => by
      rw [hf, (rep1_steps hw).1] at e1; cases e1)⟩
  | some q =>
    obtain ⟨v1, f1⟩ := q
    rw [e1] at h1
    obtain ⟨rfl, hf1⟩ := h1
    obtain ⟨n1, rfl, hn1, hl1⟩ := numO_some e1
    have G1 := Lib.hid (G0.out.step ho hf1)
    have HL1 := Lib.hid (show f1.enc.length ≤ 70000 by have := HL.out; omega)
    have E1 := Lib.hid e1
    have HN1 := Lib.hid hn1; clear hn1
    clear ho hf1 hl1 e1 G0
    go_wp2_with fail
    refine (number_f G1.out.fd HL1.out).mono ?_
    rintro e w2 ⟨ho, h1⟩
    cases e2 : numO f1 with
    | none =>
      rw [e2] at h1
      obtain rfl : e = .panicked boom := h1
      exact ⟨rfl, RepR.bad (G1.out.only.trans (ho.mono G1.out.only.size (fun _ _ k => k))) rfl (fun b hw hb hf => by
        have h1 := E1.out
        rw [hf, (rep1_steps hw).1] at h1
        simp only [Option.some.injEq, Prod.mk.injEq] at h1
        rw [← h1.2, (rep1_steps hw).2.1] at e2; cases e2)⟩
    | some q =>
      obtain ⟨v2, f2⟩ := q
      rw [e2] at h1
      obtain ⟨rfl, hf1⟩ := h1
      obtain ⟨n2, rfl, hn2, hl1⟩ := numO_some e2
      have G2 := Lib.hid (G1.out.step ho hf1)
      have HL2 := Lib.hid (show f2.enc.length ≤ 70000 by have := HL1.out; omega)
      have E2 := Lib.hid e2
      have HN2 := Lib.hid hn2; clear hn2
      clear ho hf1 hl1 e2 G1
      go_wp2_with fail
      refine (word_f G2.out.fd HL2.out).mono ?_
      rintro e w3 ⟨ho, h1⟩
      cases e3 : wordO f2 with
      | none =>
        rw [e3] at h1
        obtain rfl : e = .panicked boom := h1
        exact ⟨rfl, RepR.bad (G2.out.only.trans (ho.mono G2.out.only.size (fun _ _ k => k))) rfl (fun b hw hb hf => by
          have h1 := E1.out
          rw [hf, (rep1_steps hw).1] at h1
          simp only [Option.some.injEq, Prod.mk.injEq] at h1
          have h2 := E2.out
          rw [← h1.2, (rep1_steps hw).2.1] at h2
          simp only [Option.some.injEq, Prod.mk.injEq] at h2
          rw [← h2.2, (rep1_steps hw).2.2.1] at e3; cases e3)⟩
      | some q =>
        obtain ⟨v3, f3⟩ := q
        rw [e3] at h1
        obtain ⟨rfl, hf1⟩ := h1
        obtain ⟨n3, rfl, hn3⟩ := wordO_some e3; have hl1 := wordO_len e3
        have G3 := Lib.hid (G2.out.step ho hf1)
        have HL3 := Lib.hid (show f3.enc.length ≤ 70000 by have := HL2.out; omega)
        have E3 := Lib.hid e3
        have HN3 := Lib.hid hn3; clear hn3
        clear ho hf1 hl1 e3 G2
        unfold wordV
        go_wp2_with fail
        refine (text_f G3.out.fd HL3.out).mono ?_
        rintro e w4 ⟨ho, h1⟩
        cases e4 : textO f3 with
        | none =>
          rw [e4] at h1
          obtain rfl : e = .panicked boom := h1
          exact ⟨rfl, RepR.bad (G3.out.only.trans (ho.mono G3.out.only.size (fun _ _ k => k))) rfl (fun b hw hb hf => by
            have h1 := E1.out
            rw [hf, (rep1_steps hw).1] at h1
            simp only [Option.some.injEq, Prod.mk.injEq] at h1
            have h2 := E2.out
            rw [← h1.2, (rep1_steps hw).2.1] at h2
            simp only [Option.some.injEq, Prod.mk.injEq] at h2
            have h3 := E3.out
            rw [← h2.2, (rep1_steps hw).2.2.1] at h3
            simp only [Option.some.injEq, Prod.mk.injEq] at h3
            rw [← h3.2, (rep1_steps hw).2.2.2] at e4; cases e4)⟩
        | some q =>
          obtain ⟨v4, f4⟩ := q
          rw [e4] at h1
          obtain ⟨rfl, hf1⟩ := h1
          obtain ⟨t4, rfl, hl1⟩ := textO_some e4
          have G4 := Lib.hid (G3.out.step ho hf1)
          have HL4 := Lib.hid (show f4.enc.length ≤ 70000 by have := HL3.out; omega)
          have E4 := Lib.hid e4
          skip
          clear ho hf1 hl1 e4 G3
          obtain ⟨⟨b0, b1, b2, b3, b4, b5, b6, b7, b8, b9, b10⟩, y0, y1, y2, y3, y4, y5, y6, y7, y8, y9, y10⟩ := cells11 G4.out.box
          have HF := Lib.hid (And.intro G4.out.box G4.out.only)
          clear G4
          try unfold wordV
          go_wp2_with fail
          refine bodyPost_ret (results_cell_row Try.results35 _ _ _ _ _ _ _ rfl (set11 HF.out.1 _ _ _ _ _ _ _ _ _ _ _) Try.underlying42 rfl (by kernel_rfl)) rfl (RepR.good ⟨n1, n2, n3, t4, 0⟩ (HF.out.2.set11 (Nat.le_refl _) _ _ _ _ _ _ _ _ _ _ _) (by unfold replyV; simp [lim_zero]; try rfl) ⟨HN1.out, HN2.out, HN3.out, (show 0 < W256 by decide)⟩ ?_)
          intro b hw hb hf
          have h1 := E1.out
          rw [hf, (rep1_steps hw).1] at h1
          simp only [Option.some.injEq, Prod.mk.injEq] at h1
          have h2 := E2.out
          rw [← h1.2, (rep1_steps hw).2.1] at h2
          simp only [Option.some.injEq, Prod.mk.injEq] at h2
          have h3 := E3.out
          rw [← h2.2, (rep1_steps hw).2.2.1] at h3
          simp only [Option.some.injEq, Prod.mk.injEq] at h3
          have h4 := E4.out
          rw [← h3.2, (rep1_steps hw).2.2.2] at h4
          simp only [Option.some.injEq, Prod.mk.injEq] at h4
          have q1 : n1 = b.id := by have := h1.1; simp only [Value.int.injEq, true_and, Int.natCast_inj] at this; exact this.symm
          have q2 : n2 = b.nonce := by have := h2.1; simp only [Value.int.injEq, true_and, Int.natCast_inj] at this; exact this.symm
          have q3 := wordV_inj HN3.out hw.bal h3.1.symm
          have q4 : t4 = b.code := by have := h4.1; simp only [Value.string.injEq] at this; exact (str_inj this).symm
          have q5 : b.value = 0 := by rcases hb.2 with h | h; exact h.2; exact absurd h.1 (by decide)
          obtain ⟨i, nn, bl, cd, vl⟩ := b
          simp only at q1 q2 q3 q4 q5
          rw [q1, q2, q3, q4, q5]
set_option maxRecDepth 100000 in
set_option maxHeartbeats 4000000 in
theorem value_c {S : Nat → Prop} {g : Nat} {f : Fo} {w : World} {kind : Int} (hk : kind ≠ 1) (h : Fd S g f w) (hl : f.enc.length ≤ 70000) : Calls Try.prog 34 #[fN g, fT g, fW g] w fun e w' => RepR kind g f w e w' := by
  have G0 := Lib.hid (Gt.start h #[.int .u64 0, .int .u64 0, .int .u64 0, .int .u64 0, .int .u64 0, .int .u64 0, .string ⟨#[]⟩, .int .u64 0, .int .u64 0, .int .u64 0, .int .u64 0] 42)
  have HL := Lib.hid hl
  have eN := enterN
  have eT := enterT
  have eW := enterW
  clear h hl
  unfold fN fT fW
  go_enter Try.func34, Try.ntmps34
  go_wp2_with fail
  refine (number_f G0.out.fd HL.out).mono ?_
  rintro e w1 ⟨ho, h1⟩
  cases e1 : numO f with
  | none =>
    rw [e1] at h1
    obtain rfl : e = .panicked boom := h1
    exact ⟨rfl, RepR.bad (G0.out.only.trans (ho.mono G0.out.only.size (fun _ _ k => k))) rfl (fun b hw hb hf => by
      rw [hf, (rep2_steps hk hw).1] at e1; cases e1)⟩
  | some q =>
    obtain ⟨v1, f1⟩ := q
    rw [e1] at h1
    obtain ⟨rfl, hf1⟩ := h1
    obtain ⟨n1, rfl, hn1, hl1⟩ := numO_some e1
    have G1 := Lib.hid (G0.out.step ho hf1)
    have HL1 := Lib.hid (show f1.enc.length ≤ 70000 by have := HL.out; omega)
    have E1 := Lib.hid e1
    have HN1 := Lib.hid hn1; clear hn1
    clear ho hf1 hl1 e1 G0
    go_wp2_with fail
    refine (word_f G1.out.fd HL1.out).mono ?_
    rintro e w2 ⟨ho, h1⟩
    cases e2 : wordO f1 with
    | none =>
      rw [e2] at h1
      obtain rfl : e = .panicked boom := h1
      exact ⟨rfl, RepR.bad (G1.out.only.trans (ho.mono G1.out.only.size (fun _ _ k => k))) rfl (fun b hw hb hf => by
        have h1 := E1.out
        rw [hf, (rep2_steps hk hw).1] at h1
        simp only [Option.some.injEq, Prod.mk.injEq] at h1
        rw [← h1.2, (rep2_steps hk hw).2] at e2; cases e2)⟩
    | some q =>
      obtain ⟨v2, f2⟩ := q
      rw [e2] at h1
      obtain ⟨rfl, hf1⟩ := h1
      obtain ⟨n2, rfl, hn2⟩ := wordO_some e2; have hl1 := wordO_len e2
      have G2 := Lib.hid (G1.out.step ho hf1)
      have HL2 := Lib.hid (show f2.enc.length ≤ 70000 by have := HL1.out; omega)
      have E2 := Lib.hid e2
      have HN2 := Lib.hid hn2; clear hn2
      clear ho hf1 hl1 e2 G1
      obtain ⟨⟨b0, b1, b2, b3, b4, b5, b6, b7, b8, b9, b10⟩, y0, y1, y2, y3, y4, y5, y6, y7, y8, y9, y10⟩ := cells11 G2.out.box
      have HF := Lib.hid (And.intro G2.out.box G2.out.only)
      clear G2
      try unfold wordV
      go_wp2_with fail
      refine bodyPost_ret (results_cell_row Try.results34 _ _ _ _ _ _ _ rfl (set11 HF.out.1 _ _ _ _ _ _ _ _ _ _ _) Try.underlying42 rfl (by kernel_rfl)) rfl (RepR.good ⟨n1, 0, 0, [], n2⟩ (HF.out.2.set11 (Nat.le_refl _) _ _ _ _ _ _ _ _ _ _ _) (by unfold replyV; simp [lim_zero]; try rfl) ⟨HN1.out, (show 0 < M64 by decide), (show 0 < W256 by decide), HN2.out⟩ ?_)
      intro b hw hb hf
      have h1 := E1.out
      rw [hf, (rep2_steps hk hw).1] at h1
      simp only [Option.some.injEq, Prod.mk.injEq] at h1
      have h2 := E2.out
      rw [← h1.2, (rep2_steps hk hw).2] at h2
      simp only [Option.some.injEq, Prod.mk.injEq] at h2
      have q1 : n1 = b.id := by have := h1.1; simp only [Value.int.injEq, true_and, Int.natCast_inj] at this; exact this.symm
      have q3 := wordV_inj HN2.out hw.value h2.1.symm
      have q5 : b.nonce = 0 ∧ b.bal = 0 ∧ b.code = [] := by rcases hb.2 with h | h; exact absurd h.1 hk; exact h.2
      obtain ⟨i, nn, bl, cd, vl⟩ := b
      simp only at q1 q3 q5
      rw [q1, q3, q5.1, q5.2.1, q5.2.2]
end Go.Proofs.Ytbhijjegkpjkcaa
end
section
namespace Go.Proofs.Ytbhijjegkpjkcaa
open Go.RowKit

set_option maxRecDepth 100000 in
set_option maxHeartbeats 2000000 in
theorem acatch_panicking (a b : Nat) (v0 v1 v2 v3 v4 v5 v6 v7 : Value) (u : TypeId) (pv : Value) (older : List PanicEntry) (w : World) (ha : w.heap[a]? = some (.cells #[v0, v1, v2, v3, v4, v5, v6] 26 (0, 0))) (hb : w.heap[b]? = some (.cells #[v7] 4 (0, 0))) (hab : a ≠ b) :
    CallsD Try.prog 44 #[.pointer (some ⟨a, 0, none⟩), .pointer (some ⟨b, 0, none⟩)] (.panicking ({ v := .iface u pv, recovered := false } :: older)) w fun e u' w' =>
      e = .returned (.tuple #[]) ∧ u' = .panicking ({ v := .iface u pv, recovered := true } :: older) ∧
        w' = ((((((((w.alloc (.cells #[.int .u64 0, .string ⟨#[]⟩, .int .u64 0, .int .u64 0, .int .u64 0, .int .u64 0, .int .i64 0] 26)).setCell ⟨a, 0, none⟩ (.int .u64 0)).setCell ⟨a, 1, none⟩ (.string ⟨#[]⟩)).setCell ⟨a, 2, none⟩ (.int .u64 0)).setCell ⟨a, 3, none⟩ (.int .u64 0)).setCell ⟨a, 4, none⟩ (.int .u64 0)).setCell ⟨a, 5, none⟩ (.int .u64 0)).setCell ⟨a, 6, none⟩ (.int .i64 0)).setCell ⟨b, 0, none⟩ (.bool false) := by
  have ha' := (Below.heap_alloc w (.cells #[.int .u64 0, .string ⟨#[]⟩, .int .u64 0, .int .u64 0, .int .u64 0, .int .u64 0, .int .i64 0] 26) _ (lt_of ha)).trans ha
  have hb' := (Below.heap_alloc w (.cells #[.int .u64 0, .string ⟨#[]⟩, .int .u64 0, .int .u64 0, .int .u64 0, .int .u64 0, .int .i64 0] 26) _ (lt_of hb)).trans hb
  have hn := heap_alloc_new w (.cells #[.int .u64 0, .string ⟨#[]⟩, .int .u64 0, .int .u64 0, .int .u64 0, .int .u64 0, .int .i64 0] 26)
  obtain ⟨⟨c0, c1, c2, c3, c4, c5, c6⟩, z0, z1, z2, z3, z4, z5, z6⟩ := cells7 ha'
  obtain ⟨⟨d0, d1, d2, d3, d4, d5, d6⟩, _⟩ := cells7 hn
  have c7 := cell_of hb' 0
  have z7 := free_of hb' 0
  refine callsD_of_wpS Try.func44 rfl fun c₀ cs hu => ?_
  apply wpS_seq
  apply wpS_region
  simp [wpOpsS, go_sem, recoverD, hu, Try.ntmps44, Exit.thenS]
  refine wpS_cond (t := true) (by simp [Act.eval, Array.replicate]) ?_
  simp only [if_true]
  have c7' : (w.alloc (.cells #[.int .u64 0, .string ⟨#[]⟩, .int .u64 0, .int .u64 0, .int .u64 0, .int .u64 0, .int .i64 0] 26)).cell? ⟨b, 0, none⟩ = some v7 := c7
  have hab' : ¬ b = a := fun e => hab e.symm
  clear ha hb ha' hb' hn
  first | apply wpS_seq | skip
  apply wpS_region
  simp [wpOpsS, go_sem, Exit.thenS]
  try apply wpS_region
  simp [wpOpsS, go_sem, c0, c1, c2, c3, c4, c5, c6, z0, z1, z2, z3, z4, z5, z6, d0, d1, d2, d3, d4, d5, d6, c7', z7, bodyPostS, results, Try.results44]
theorem acatch_idle (p q : Value) (w : World) :
    CallsD Try.prog 44 #[p, q] .returning w fun e u' w' => e = .returned (.tuple #[]) ∧ u' = .returning ∧ w' = w := by
  refine callsD_of_wpS Try.func44 rfl fun c₀ cs hu => ?_
  apply wpS_seq
  apply wpS_region
  simp [wpOpsS, go_sem, recoverD, hu, Try.ntmps44, Exit.thenS]
  refine wpS_cond (t := false) (by simp [Act.eval, Array.replicate]) ?_
  simp only [Bool.false_eq_true, if_false]
  refine wpS_of_wp (wp_skip ?_)
  cases c₀
  simp_all [bodyPostS, results, Try.results44]
end Go.Proofs.Ytbhijjegkpjkcaa
end
section
namespace Go.Proofs.Ytbhijjegkpjkcaa
open Go.RowKit

theorem val_app_le (a b : List UInt8) : val a ≤ val (a ++ b) := by
  refine snoc_ind (P := fun b => val a ≤ val (a ++ b)) (by simp) (fun l c ih => ?_) b
  rw [← List.append_assoc, val_snoc]; omega
theorem val_take_le (r : List UInt8) {i j : Nat} (h : i ≤ j) : val (r.take i) ≤ val (r.take j) := by
  have e : r.take j = r.take i ++ (r.take j).drop i := by
    have h1 := List.take_append_drop i (r.take j)
    rw [List.take_take, Nat.min_eq_left h] at h1
    exact h1.symm
  rw [e]; exact val_app_le _ _
/-- What size tells of an item's bytes, whose first one is m, with so many above the least of its kind. -/
def SizeB (s : List UInt8) (a : Nat) (o : Option (List UInt8 × List UInt8)) (e : Ending) : Prop :=
  match o with
  | none => ∃ p q : Int, e = .returned (.tuple #[.int .i64 p, .int .i64 q, .bool false])
  | some (x, r) => ∃ h : Nat, e = .returned (.tuple #[.int .i64 (h : Nat), .int .i64 (x.length : Nat), .bool true]) ∧ (h = 1 ↔ a ≤ 55) ∧ h ≤ s.length ∧ s.drop h = x ++ r ∧ 1 ≤ h
theorem tk_none {n : Nat} {s : List UInt8} (h : ¬ n ≤ s.length) : tk n s = none := if_neg h
theorem tk_some {n : Nat} {s : List UInt8} (h : n ≤ s.length) : tk n s = some (s.take n, s.drop n) := if_pos h
theorem bodyP_long {a : Nat} (r : List UInt8) (ha : ¬ a ≤ 55) (k : Nat) (hk : a - 55 = k) : bodyP a r = if k ≤ r.length then (if smallL (r.take k) = true ∧ 55 < val (r.take k) then tk (val (r.take k)) (r.drop k) else none) else none := by
  subst hk
  unfold bodyP
  rw [if_neg ha]
  by_cases h : a - 55 ≤ r.length
  · rw [tk_some h, if_pos h]
  · rw [tk_none h, if_neg h]
set_option maxRecDepth 100000 in
set_option maxHeartbeats 4000000 in
theorem rsize_none (w : World) : Calls Try.prog 74 #[.string ⟨#[]⟩] w fun e w' => e = .returned (.tuple #[.int .i64 0, .int .i64 0, .bool false]) ∧ w' = w := by
  go_enter Try.func74, Try.ntmps74
  go_wp2_with fail
  exact bodyPost_ret (v := .tuple #[.int .i64 0, .int .i64 0, .bool false]) (by simp [results, Try.results74, go_sem]) rfl ⟨rfl, rfl⟩
set_option maxRecDepth 100000 in
set_option maxHeartbeats 4000000 in
theorem rsize_one (b : UInt8) (r : List UInt8) (hb : b.toNat < 128) (w : World) : Calls Try.prog 74 #[.string (str (b :: r))] w fun e w' => e = .returned (.tuple #[.int .i64 0, .int .i64 1, .bool true]) ∧ w' = w := by
  have hix := rindex0 b r
  have hz : ¬ ((str (b :: r)).size : Int) = 0 := by rw [str_size, List.length_cons]; omega
  have hz2 : (((str (b :: r)).size : Int) == 0) = false := by rw [beq_eq_false_iff_ne]; exact hz
  have h1 : ¬ (192 : Int) ≤ (b.toNat : Int) := by omega
  have h2 : (b.toNat : Int) < 128 := by omega
  generalize str (b :: r) = t at *
  generalize b.toNat = m at *
  go_enter Try.func74, Try.ntmps74
  go_wp2_with fail
  exact bodyPost_ret (v := .tuple #[.int .i64 0, .int .i64 1, .bool true]) (by simp [results, Try.results74, go_sem]) rfl ⟨rfl, rfl⟩
set_option maxRecDepth 100000 in
set_option maxHeartbeats 8000000 in
theorem rsize_128 (b : UInt8) (r : List UInt8) (hb : 128 ≤ b.toNat ∧ b.toNat < 192) (hr : r.length < 100000) (w : World) : Calls Try.prog 74 #[.string (str (b :: r))] w fun e w' => SizeB (b :: r) (b.toNat - 128) (bodyP (b.toNat - 128) r) e ∧ w' = w := by
  have hix := rindex0 b r
  have hz : ¬ ((str (b :: r)).size : Int) = 0 := by rw [str_size, List.length_cons]; omega
  have hz2 : (((str (b :: r)).size : Int) == 0) = false := by rw [beq_eq_false_iff_ne]; exact hz
  have hb8 := b.toNat_lt
  have h1 : ¬ (192 : Int) ≤ (b.toNat : Int) := by omega
  have h2 : ¬ (b.toNat : Int) < 128 := by omega
  obtain ⟨a, ha⟩ : ∃ a, a = b.toNat - 128 := ⟨_, rfl⟩
  have h3 : (b.toNat : Int) - 128 = (a : Int) := by omega
  have ha64 : a < 64 := by omega
  rw [← ha]
  have hsz : ((str (b :: r)).size : Int) - 1 = (r.length : Int) := by rw [str_size, List.length_cons]; omega
  by_cases h55 : a ≤ 55
  · have h4 : (a : Int) ≤ 55 := by omega
    by_cases hl : a ≤ r.length
    · have h5 : (a : Int) ≤ (r.length : Int) := by omega
      have HF := Lib.hid (show SizeB (b :: r) a (bodyP a r) (.returned (.tuple #[.int .i64 1, .int .i64 (a : Nat), .bool true])) from by
        unfold bodyP
        rw [if_pos h55, tk_some hl]
        exact ⟨1, by rw [List.length_take, Nat.min_eq_left hl]; rfl, by simp [h55], by simp, by simp, Nat.le_refl _⟩)
      clear hl h55 ha
      generalize str (b :: r) = t at *
      generalize b.toNat = m at *
      go_enter Try.func74, Try.ntmps74
      go_wp2_with fail
      exact bodyPost_ret (v := .tuple #[.int .i64 1, .int .i64 (a : Nat), .bool true]) (by simp [results, Try.results74, go_sem]) rfl ⟨HF.out, rfl⟩
    · have h5 : ¬ (a : Int) ≤ (r.length : Int) := by omega
      have HF := Lib.hid (show SizeB (b :: r) a (bodyP a r) (.returned (.tuple #[.int .i64 1, .int .i64 (a : Nat), .bool false])) from by
        unfold bodyP
        rw [if_pos h55, tk_none hl]
        exact ⟨_, _, rfl⟩)
      clear hl h55 ha
      generalize str (b :: r) = t at *
      generalize b.toNat = m at *
      go_enter Try.func74, Try.ntmps74
      go_wp2_with fail
      exact bodyPost_ret (v := .tuple #[.int .i64 1, .int .i64 (a : Nat), .bool false]) (by simp [results, Try.results74, go_sem]) rfl ⟨HF.out, rfl⟩
  · have h4 : ¬ (a : Int) ≤ 55 := by omega
    obtain ⟨k, hk⟩ : ∃ k, a - 55 = k := ⟨_, rfl⟩
    have h5 : (a : Int) - 55 = (k : Int) := by omega
    have hk8 : k ≤ 8 := by omega
    have hsz2 := str_size (b :: r)
    rw [List.length_cons] at hsz2
    rw [bodyP_long r h55 k hk]
    have h77 : ∀ e, (∃ p q : Int, e = Ending.returned (.tuple #[.int .i64 p, .int .i64 q, .bool false])) → SizeB (b :: r) a none e := fun _ h => h
    by_cases hl : k ≤ r.length
    · rw [if_pos hl]
      have h6 : ¬ ((str (b :: r)).size : Int) < 1 + (k : Int) := by omega
      obtain ⟨c, q, rfl⟩ : ∃ c q, r = c :: q := by
        rcases r with _ | ⟨c, q⟩
        · simp at hl; omega
        · exact ⟨c, q, rfl⟩
      have hix1 := rindexk (b :: c :: q) 1 (by simp)
      have hc1 : ((1 : Nat) : Int) = 1 := rfl
      rw [hc1, show (b :: c :: q)[1] = c from rfl] at hix1
      by_cases hc0 : c.toNat = 0
      · have hsm : smallL ((c :: q).take k) = false := by
          obtain ⟨k', rfl⟩ : ∃ k', k = k' + 1 := ⟨k - 1, by omega⟩
          have : c = 0 := UInt8.toNat_inj.1 (by simpa using hc0)
          subst this
          simp [smallL]
        rw [hsm]
        simp only [Bool.false_eq_true, false_and, if_false]
        rw [hc0] at hix1
        have HF := Lib.hid (h77 _ ⟨0, 0, rfl⟩)
        clear h77 hsm hc0 hl hk ha h55 hsz2
        generalize str (b :: c :: q) = t at *
        generalize b.toNat = m at *
        go_enter Try.func74, Try.ntmps74
        go_wp2_with fail
        exact bodyPost_ret (v := .tuple #[.int .i64 0, .int .i64 0, .bool false]) (by simp [results, Try.results74, go_sem]) rfl ⟨HF.out, rfl⟩
      · have hsm : smallL ((c :: q).take k) = true := by
          obtain ⟨k', rfl⟩ : ∃ k', k = k' + 1 := ⟨k - 1, by omega⟩
          have : ¬ c = 0 := fun e => hc0 (by rw [e]; rfl)
          simp only [smallL, Bool.and_eq_true, decide_eq_true_eq, List.length_take]
          exact ⟨by omega, by simpa using this⟩
        have hci : ((c.toNat : Int) == 0) = false := by rw [beq_eq_false_iff_ne]; omega
        have hci2 : ¬ (c.toNat : Int) = 0 := by omega
        rw [hsm]
        simp only [true_and]
        obtain ⟨O, hO⟩ : ∃ O, O = (if 55 < val ((c :: q).take k) then tk (val ((c :: q).take k)) ((c :: q).drop k) else none) := ⟨_, rfl⟩
        rw [← hO]
        have HO := Lib.hid hO
        clear hO
        have HL := Lib.hid (And.intro hl (And.intro hr (And.intro h55 (And.intro hk8 hsz2))))
        obtain ⟨N, hN⟩ : ∃ N, N = (c :: q).length := ⟨_, rfl⟩
        rw [← hN] at hsz
        have hNb : N < 100000 := by omega
        have HN0 := Lib.hid hN
        clear hN
        have HIX := Lib.hid (fun i (hi : i < (c :: q).length) => rindexk (b :: c :: q) (1 + i) (by simp at hi ⊢; omega))
        have HF := Lib.hid h77
        have h8i : (k : Int) ≤ 8 := by omega
        clear hsm hc0 hl hk ha h55 hsz2 h77 hr
        generalize ht : str (b :: c :: q) = t at *
        have HT := Lib.hid ht
        clear ht
        generalize b.toNat = m at *
        go_enter Try.func74, Try.ntmps74
        go_wp2_with fail
        go_loopw [8, 9] (fun n i wr => ∃ j : Nat, n = .int .i64 (val ((c :: q).take j) : Nat) ∧ i = .int .i64 j ∧ j ≤ k ∧ val ((c :: q).take j) < 1000000000 ∧ wr = w) (fun _ i _ => k - (intOf i).toNat)
        case atStart => exact ⟨0, rfl, rfl, Nat.zero_le _, by rw [List.take_zero]; decide, rfl⟩
        case round =>
          obtain ⟨j, rfl, rfl, hj, hv, rfl⟩ := hrel
          have HV := Lib.hid (val_take_le (c :: q) hj)
          by_cases hjk : j < k
          · have h7 : (j : Int) < (k : Int) := by omega
            by_cases hbig : 1048576 < val ((c :: q).take j)
            · have h8 : (1048576 : Int) < (val ((c :: q).take j) : Int) := by omega
              have HN := Lib.hid (show SizeB (b :: c :: q) a O (.returned (.tuple #[.int .i64 0, .int .i64 0, .bool false])) from by
                have h9 := HV.out
                have h10 := HL.out
                rw [HO.out, if_pos (by omega), tk_none (by rw [List.length_drop]; omega)]
                exact HF.out _ ⟨0, 0, rfl⟩)
              clear hbig HV
              generalize val ((c :: q).take j) = v at *
              go_wp2_with fail
              exact bodyPost_ret (v := .tuple #[.int .i64 0, .int .i64 0, .bool false]) (by simp [results, Try.results74, go_sem]) rfl ⟨HN.out, rfl⟩
            · have h8 : ¬ (1048576 : Int) < (val ((c :: q).take j) : Int) := by omega
              have hjl : j < (c :: q).length := by have := HL.out; omega
              have hxj := HIX.out j hjl
              obtain ⟨d, hd⟩ : ∃ d, d = (c :: q)[j]'hjl := ⟨_, rfl⟩
              rw [show (b :: c :: q)[1 + j]'(by simp at hjl ⊢; omega) = d by rw [hd]; simp [Nat.add_comm 1 j]] at hxj
              have hd8 := d.toNat_lt
              have hc2 : ((1 + j : Nat) : Int) = 1 + (j : Int) := by omega
              rw [hc2] at hxj
              have HVN := Lib.hid (show val ((c :: q).take (j + 1)) = val ((c :: q).take j) * 256 + d.toNat by rw [List.take_succ_eq_append_getElem hjl, val_snoc, ← hd])
              clear HV hd
              obtain ⟨v, hv2⟩ : ∃ v, v = val ((c :: q).take j) := ⟨_, rfl⟩
              rw [← hv2] at h8 hv hbig HVN
              rw [← hv2]
              clear hv2
              generalize d.toNat = dn at *
              go_wp2_with fail
              go_roundw
              case rel => exact ⟨j + 1, by rw [HVN.out]; go_num, by go_num, by omega, by rw [HVN.out]; omega, trivial⟩
              case measure => simp [intOf]; omega
          · have h7 : ¬ (j : Int) < (k : Int) := by omega
            obtain rfl : j = k := by omega
            clear hjk HV
            have hk1 : 1 + (j : Int) = ((1 + j : Nat) : Int) := by omega
            have hsl : (t.size : Int) - 1 - (j : Int) = (((c :: q).drop j).length : Int) := by
              have := HL.out; rw [List.length_drop]; omega
            have hsl' := hsl
            rw [hsz] at hsl'
            have hdb : ((c :: q).drop j).length ≤ 100000 := by have := HL.out; rw [List.length_drop]; omega
            by_cases hn5 : 55 < val ((c :: q).take j)
            · have h8 : (55 : Int) < (val ((c :: q).take j) : Int) := by omega
              have HO2 := HO.out
              rw [if_pos hn5] at HO2
              by_cases hn6 : val ((c :: q).take j) ≤ ((c :: q).drop j).length
              · have h9 : (val ((c :: q).take j) : Int) ≤ (((c :: q).drop j).length : Int) := by omega
                have HN := Lib.hid (show SizeB (b :: c :: q) a O (.returned (.tuple #[.int .i64 (1 + (j : Int)), .int .i64 (val ((c :: q).take j) : Nat), .bool true])) from by
                  rw [HO2, tk_some hn6]
                  have h10 := HL.out
                  refine ⟨1 + j, by rw [List.length_take, Nat.min_eq_left hn6, hk1], ⟨fun h => by omega, fun h => absurd h h10.2.2.1⟩, by simp at h10 ⊢; omega, ?_, by omega⟩
                  rw [Nat.add_comm 1 j, List.take_append_drop]; rfl)
                clear hn5 hn6 hk1 HF HO2
                generalize ((c :: q).drop j).length = dl at *
                generalize val ((c :: q).take j) = v at *
                go_wp2_with fail
                exact bodyPost_ret (v := .tuple #[.int .i64 (1 + (j : Int)), .int .i64 (v : Nat), .bool true]) (by simp [results, Try.results74, go_sem]) rfl ⟨HN.out, rfl⟩
              · have h9 : ¬ (val ((c :: q).take j) : Int) ≤ (((c :: q).drop j).length : Int) := by omega
                have HN := Lib.hid (show SizeB (b :: c :: q) a O (.returned (.tuple #[.int .i64 (1 + (j : Int)), .int .i64 (val ((c :: q).take j) : Nat), .bool false])) from by
                  rw [HO2, tk_none hn6]
                  exact HF.out _ ⟨_, _, rfl⟩)
                clear hn5 hn6 hk1 HF HO2
                generalize ((c :: q).drop j).length = dl at *
                generalize val ((c :: q).take j) = v at *
                go_wp2_with fail
                exact bodyPost_ret (v := .tuple #[.int .i64 (1 + (j : Int)), .int .i64 (v : Nat), .bool false]) (by simp [results, Try.results74, go_sem]) rfl ⟨HN.out, rfl⟩
            · have h8 : ¬ (55 : Int) < (val ((c :: q).take j) : Int) := by omega
              have HN := Lib.hid (show SizeB (b :: c :: q) a O (.returned (.tuple #[.int .i64 (1 + (j : Int)), .int .i64 (val ((c :: q).take j) : Nat), .bool false])) from by
                rw [HO.out, if_neg hn5]
                exact HF.out _ ⟨_, _, rfl⟩)
              clear hn5 hk1 HF
              generalize val ((c :: q).take j) = v at *
              go_wp2_with fail
              exact bodyPost_ret (v := .tuple #[.int .i64 (1 + (j : Int)), .int .i64 (v : Nat), .bool false]) (by simp [results, Try.results74, go_sem]) rfl ⟨HN.out, rfl⟩
    · rw [if_neg hl]
      have h6 : ((str (b :: r)).size : Int) < 1 + (k : Int) := by omega
      have HF := Lib.hid (h77 _ ⟨0, 0, rfl⟩)
      clear h77 hl hk ha h55 hsz2
      generalize str (b :: r) = t at *
      generalize b.toNat = m at *
      go_enter Try.func74, Try.ntmps74
      go_wp2_with fail
      exact bodyPost_ret (v := .tuple #[.int .i64 0, .int .i64 0, .bool false]) (by simp [results, Try.results74, go_sem]) rfl ⟨HF.out, rfl⟩
set_option maxRecDepth 100000 in
set_option maxHeartbeats 8000000 in
theorem rsize_192 (b : UInt8) (r : List UInt8) (hb : 192 ≤ b.toNat) (hr : r.length < 100000) (w : World) : Calls Try.prog 74 #[.string (str (b :: r))] w fun e w' => SizeB (b :: r) (b.toNat - 192) (bodyP (b.toNat - 192) r) e ∧ w' = w := by
  have hix := rindex0 b r
  have hz : ¬ ((str (b :: r)).size : Int) = 0 := by rw [str_size, List.length_cons]; omega
  have hz2 : (((str (b :: r)).size : Int) == 0) = false := by rw [beq_eq_false_iff_ne]; exact hz
  have hb8 := b.toNat_lt
  have h1 : (192 : Int) ≤ (b.toNat : Int) := by omega
  have h2 : ¬ (b.toNat : Int) < 128 := by omega
  obtain ⟨a, ha⟩ : ∃ a, a = b.toNat - 192 := ⟨_, rfl⟩
  have h3 : (b.toNat : Int) - 192 = (a : Int) := by omega
  have ha64 : a < 64 := by omega
  rw [← ha]
  have hsz : ((str (b :: r)).size : Int) - 1 = (r.length : Int) := by rw [str_size, List.length_cons]; omega
  by_cases h55 : a ≤ 55
  · have h4 : (a : Int) ≤ 55 := by omega
    by_cases hl : a ≤ r.length
    · have h5 : (a : Int) ≤ (r.length : Int) := by omega
      have HF := Lib.hid (show SizeB (b :: r) a (bodyP a r) (.returned (.tuple #[.int .i64 1, .int .i64 (a : Nat), .bool true])) from by
        unfold bodyP
        rw [if_pos h55, tk_some hl]
        exact ⟨1, by rw [List.length_take, Nat.min_eq_left hl]; rfl, by simp [h55], by simp, by simp, Nat.le_refl _⟩)
      clear hl h55 ha
      generalize str (b :: r) = t at *
      generalize b.toNat = m at *
      go_enter Try.func74, Try.ntmps74
      go_wp2_with fail
      exact bodyPost_ret (v := .tuple #[.int .i64 1, .int .i64 (a : Nat), .bool true]) (by simp [results, Try.results74, go_sem]) rfl ⟨HF.out, rfl⟩
    · have h5 : ¬ (a : Int) ≤ (r.length : Int) := by omega
      have HF := Lib.hid (show SizeB (b :: r) a (bodyP a r) (.returned (.tuple #[.int .i64 1, .int .i64 (a : Nat), .bool false])) from by
        unfold bodyP
        rw [if_pos h55, tk_none hl]
        exact ⟨_, _, rfl⟩)
      clear hl h55 ha
      generalize str (b :: r) = t at *
      generalize b.toNat = m at *
      go_enter Try.func74, Try.ntmps74
      go_wp2_with fail
      exact bodyPost_ret (v := .tuple #[.int .i64 1, .int .i64 (a : Nat), .bool false]) (by simp [results, Try.results74, go_sem]) rfl ⟨HF.out, rfl⟩
  · have h4 : ¬ (a : Int) ≤ 55 := by omega
    obtain ⟨k, hk⟩ : ∃ k, a - 55 = k := ⟨_, rfl⟩
    have h5 : (a : Int) - 55 = (k : Int) := by omega
    have hk8 : k ≤ 8 := by omega
    have hsz2 := str_size (b :: r)
    rw [List.length_cons] at hsz2
    rw [bodyP_long r h55 k hk]
    have h77 : ∀ e, (∃ p q : Int, e = Ending.returned (.tuple #[.int .i64 p, .int .i64 q, .bool false])) → SizeB (b :: r) a none e := fun _ h => h
    by_cases hl : k ≤ r.length
    · rw [if_pos hl]
      have h6 : ¬ ((str (b :: r)).size : Int) < 1 + (k : Int) := by omega
      obtain ⟨c, q, rfl⟩ : ∃ c q, r = c :: q := by
        rcases r with _ | ⟨c, q⟩
        · simp at hl; omega
        · exact ⟨c, q, rfl⟩
      have hix1 := rindexk (b :: c :: q) 1 (by simp)
      have hc1 : ((1 : Nat) : Int) = 1 := rfl
      rw [hc1, show (b :: c :: q)[1] = c from rfl] at hix1
      by_cases hc0 : c.toNat = 0
      · have hsm : smallL ((c :: q).take k) = false := by
          obtain ⟨k', rfl⟩ : ∃ k', k = k' + 1 := ⟨k - 1, by omega⟩
          have : c = 0 := UInt8.toNat_inj.1 (by simpa using hc0)
          subst this
          simp [smallL]
        rw [hsm]
        simp only [Bool.false_eq_true, false_and, if_false]
        rw [hc0] at hix1
        have HF := Lib.hid (h77 _ ⟨0, 0, rfl⟩)
        clear h77 hsm hc0 hl hk ha h55 hsz2
        generalize str (b :: c :: q) = t at *
        generalize b.toNat = m at *
        go_enter Try.func74, Try.ntmps74
        go_wp2_with fail
        exact bodyPost_ret (v := .tuple #[.int .i64 0, .int .i64 0, .bool false]) (by simp [results, Try.results74, go_sem]) rfl ⟨HF.out, rfl⟩
      · have hsm : smallL ((c :: q).take k) = true := by
          obtain ⟨k', rfl⟩ : ∃ k', k = k' + 1 := ⟨k - 1, by omega⟩
          have : ¬ c = 0 := fun e => hc0 (by rw [e]; rfl)
          simp only [smallL, Bool.and_eq_true, decide_eq_true_eq, List.length_take]
          exact ⟨by omega, by simpa using this⟩
        have hci : ((c.toNat : Int) == 0) = false := by rw [beq_eq_false_iff_ne]; omega
        have hci2 : ¬ (c.toNat : Int) = 0 := by omega
        rw [hsm]
        simp only [true_and]
        obtain ⟨O, hO⟩ : ∃ O, O = (if 55 < val ((c :: q).take k) then tk (val ((c :: q).take k)) ((c :: q).drop k) else none) := ⟨_, rfl⟩
        rw [← hO]
        have HO := Lib.hid hO
        clear hO
        have HL := Lib.hid (And.intro hl (And.intro hr (And.intro h55 (And.intro hk8 hsz2))))
        obtain ⟨N, hN⟩ : ∃ N, N = (c :: q).length := ⟨_, rfl⟩
        rw [← hN] at hsz
        have hNb : N < 100000 := by omega
        have HN0 := Lib.hid hN
        clear hN
        have HIX := Lib.hid (fun i (hi : i < (c :: q).length) => rindexk (b :: c :: q) (1 + i) (by simp at hi ⊢; omega))
        have HF := Lib.hid h77
        have h8i : (k : Int) ≤ 8 := by omega
        clear hsm hc0 hl hk ha h55 hsz2 h77 hr
        generalize ht : str (b :: c :: q) = t at *
        have HT := Lib.hid ht
        clear ht
        generalize b.toNat = m at *
        go_enter Try.func74, Try.ntmps74
        go_wp2_with fail
        go_loopw [8, 9] (fun n i wr => ∃ j : Nat, n = .int .i64 (val ((c :: q).take j) : Nat) ∧ i = .int .i64 j ∧ j ≤ k ∧ val ((c :: q).take j) < 1000000000 ∧ wr = w) (fun _ i _ => k - (intOf i).toNat)
        case atStart => exact ⟨0, rfl, rfl, Nat.zero_le _, by rw [List.take_zero]; decide, rfl⟩
        case round =>
          obtain ⟨j, rfl, rfl, hj, hv, rfl⟩ := hrel
          have HV := Lib.hid (val_take_le (c :: q) hj)
          by_cases hjk : j < k
          · have h7 : (j : Int) < (k : Int) := by omega
            by_cases hbig : 1048576 < val ((c :: q).take j)
            · have h8 : (1048576 : Int) < (val ((c :: q).take j) : Int) := by omega
              have HN := Lib.hid (show SizeB (b :: c :: q) a O (.returned (.tuple #[.int .i64 0, .int .i64 0, .bool false])) from by
                have h9 := HV.out
                have h10 := HL.out
                rw [HO.out, if_pos (by omega), tk_none (by rw [List.length_drop]; omega)]
                exact HF.out _ ⟨0, 0, rfl⟩)
              clear hbig HV
              generalize val ((c :: q).take j) = v at *
              go_wp2_with fail
              exact bodyPost_ret (v := .tuple #[.int .i64 0, .int .i64 0, .bool false]) (by simp [results, Try.results74, go_sem]) rfl ⟨HN.out, rfl⟩
            · have h8 : ¬ (1048576 : Int) < (val ((c :: q).take j) : Int) := by omega
              have hjl : j < (c :: q).length := by have := HL.out; omega
              have hxj := HIX.out j hjl
              obtain ⟨d, hd⟩ : ∃ d, d = (c :: q)[j]'hjl := ⟨_, rfl⟩
              rw [show (b :: c :: q)[1 + j]'(by simp at hjl ⊢; omega) = d by rw [hd]; simp [Nat.add_comm 1 j]] at hxj
              have hd8 := d.toNat_lt
              have hc2 : ((1 + j : Nat) : Int) = 1 + (j : Int) := by omega
              rw [hc2] at hxj
              have HVN := Lib.hid (show val ((c :: q).take (j + 1)) = val ((c :: q).take j) * 256 + d.toNat by rw [List.take_succ_eq_append_getElem hjl, val_snoc, ← hd])
              clear HV hd
              obtain ⟨v, hv2⟩ : ∃ v, v = val ((c :: q).take j) := ⟨_, rfl⟩
              rw [← hv2] at h8 hv hbig HVN
              rw [← hv2]
              clear hv2
              generalize d.toNat = dn at *
              go_wp2_with fail
              go_roundw
              case rel => exact ⟨j + 1, by rw [HVN.out]; go_num, by go_num, by omega, by rw [HVN.out]; omega, trivial⟩
              case measure => simp [intOf]; omega
          · have h7 : ¬ (j : Int) < (k : Int) := by omega
            obtain rfl : j = k := by omega
            clear hjk HV
            have hk1 : 1 + (j : Int) = ((1 + j : Nat) : Int) := by omega
            have hsl : (t.size : Int) - 1 - (j : Int) = (((c :: q).drop j).length : Int) := by
              have := HL.out; rw [List.length_drop]; omega
            have hsl' := hsl
            rw [hsz] at hsl'
            have hdb : ((c :: q).drop j).length ≤ 100000 := by have := HL.out; rw [List.length_drop]; omega
            by_cases hn5 : 55 < val ((c :: q).take j)
            · have h8 : (55 : Int) < (val ((c :: q).take j) : Int) := by omega
              have HO2 := HO.out
              rw [if_pos hn5] at HO2
              by_cases hn6 : val ((c :: q).take j) ≤ ((c :: q).drop j).length
              · have h9 : (val ((c :: q).take j) : Int) ≤ (((c :: q).drop j).length : Int) := by omega
                have HN := Lib.hid (show SizeB (b :: c :: q) a O (.returned (.tuple #[.int .i64 (1 + (j : Int)), .int .i64 (val ((c :: q).take j) : Nat), .bool true])) from by
                  rw [HO2, tk_some hn6]
                  have h10 := HL.out
                  refine ⟨1 + j, by rw [List.length_take, Nat.min_eq_left hn6, hk1], ⟨fun h => by omega, fun h => absurd h h10.2.2.1⟩, by simp at h10 ⊢; omega, ?_, by omega⟩
                  rw [Nat.add_comm 1 j, List.take_append_drop]; rfl)
                clear hn5 hn6 hk1 HF HO2
                generalize ((c :: q).drop j).length = dl at *
                generalize val ((c :: q).take j) = v at *
                go_wp2_with fail
                exact bodyPost_ret (v := .tuple #[.int .i64 (1 + (j : Int)), .int .i64 (v : Nat), .bool true]) (by simp [results, Try.results74, go_sem]) rfl ⟨HN.out, rfl⟩
              · have h9 : ¬ (val ((c :: q).take j) : Int) ≤ (((c :: q).drop j).length : Int) := by omega
                have HN := Lib.hid (show SizeB (b :: c :: q) a O (.returned (.tuple #[.int .i64 (1 + (j : Int)), .int .i64 (val ((c :: q).take j) : Nat), .bool false])) from by
                  rw [HO2, tk_none hn6]
                  exact HF.out _ ⟨_, _, rfl⟩)
                clear hn5 hn6 hk1 HF HO2
                generalize ((c :: q).drop j).length = dl at *
                generalize val ((c :: q).take j) = v at *
                go_wp2_with fail
                exact bodyPost_ret (v := .tuple #[.int .i64 (1 + (j : Int)), .int .i64 (v : Nat), .bool false]) (by simp [results, Try.results74, go_sem]) rfl ⟨HN.out, rfl⟩
            · have h8 : ¬ (55 : Int) < (val ((c :: q).take j) : Int) := by omega
              have HN := Lib.hid (show SizeB (b :: c :: q) a O (.returned (.tuple #[.int .i64 (1 + (j : Int)), .int .i64 (val ((c :: q).take j) : Nat), .bool false])) from by
                rw [HO.out, if_neg hn5]
                exact HF.out _ ⟨_, _, rfl⟩)
              clear hn5 hk1 HF
              generalize val ((c :: q).take j) = v at *
              go_wp2_with fail
              exact bodyPost_ret (v := .tuple #[.int .i64 (1 + (j : Int)), .int .i64 (v : Nat), .bool false]) (by simp [results, Try.results74, go_sem]) rfl ⟨HN.out, rfl⟩
    · rw [if_neg hl]
      have h6 : ((str (b :: r)).size : Int) < 1 + (k : Int) := by omega
      have HF := Lib.hid (h77 _ ⟨0, 0, rfl⟩)
      clear h77 hl hk ha h55 hsz2
      generalize str (b :: r) = t at *
      generalize b.toNat = m at *
      go_enter Try.func74, Try.ntmps74
      go_wp2_with fail
      exact bodyPost_ret (v := .tuple #[.int .i64 0, .int .i64 0, .bool false]) (by simp [results, Try.results74, go_sem]) rfl ⟨HF.out, rfl⟩
end Go.Proofs.Ytbhijjegkpjkcaa
end
