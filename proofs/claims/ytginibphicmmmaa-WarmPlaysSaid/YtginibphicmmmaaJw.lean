/- Two lists of logs held against each other. -/
import Derived.Test.YtginibphicmmmaaJv
import Derived.Laws.StructEq
import Derived.Deep.QuietTactic
import Derived.BigQuiet
namespace Go.Proofs.Ytginibphicmmmaa
open Go.RowKit Go.Maps Go.Shelf Mp

theorem neq_wq (k m : Wq) (w : World) : (binOp .neq 46 (.agg (wqC k)) (.agg (wqC m))).run Try.prog w = .ok (.bool (!decide (k = m))) w := by
  have h := eq_wq k m w
  rw [run_eql_struct] at h
  rw [run_neq_struct]
  generalize (Op.equalIn _ _ _ _).run Try.prog w = r at *
  cases r <;> simp [Result.andThen] at h ⊢
  obtain ⟨h1, h2⟩ := h
  exact ⟨by rw [h1], h2⟩
theorem wrap_any {i : Nat} (h : i < 4611686018427387904) : wrap64 ((i : Int) + 1) = (i : Int) + 1 := IntWalk.wrap64_in _ ⟨by omega, by omega⟩
theorem list_same {α : Type} {a b : List α} (hl : a.length = b.length) (h : ∀ j, j < a.length → a[j]? = b[j]?) : a = b := by
  apply List.ext_getElem?
  intro j
  rcases Nat.lt_or_ge j a.length with h1 | h1
  · exact h j h1
  · rw [List.getElem?_eq_none h1, List.getElem?_eq_none (by omega)]
theorem words_at {V : World} {q : Option Addr} {n c : Nat} {ws : List Wq} (h : WordsAt V (.slice q n c) ws) {j : Nat} {w : Wq} (hj : ws[j]? = some w) : ∃ g o, q = some ⟨g, o, none⟩ ∧ V.cell? ⟨g, o + j * 4, none⟩ = some (.int .u64 (w.a : Nat)) ∧ V.cell? ⟨g, o + j * 4 + 1, none⟩ = some (.int .u64 (w.b : Nat)) ∧ V.cell? ⟨g, o + j * 4 + 2, none⟩ = some (.int .u64 (w.c : Nat)) ∧ V.cell? ⟨g, o + j * 4 + 3, none⟩ = some (.int .u64 (w.d : Nat)) := by
  obtain ⟨pa, c9, e, h1, h2⟩ := h
  injection e with e z1 z2
  subst e
  cases q with
  | none => rw [(h1 rfl).1] at hj; simp at hj
  | some ad =>
    have hc := fun r (hr : r < 4) => (h2 ad rfl).2 (j * 4 + r) ((Wq.cells w)[r]'(by simpa [Wq.cells] using hr)) (by rw [wordsC_at ws j w hj r hr]; simp)
    have hjl : j < ws.length := (List.getElem?_eq_some_iff.1 hj).1
    have c0 := (h2 ad rfl).2 0 _ ((wordsC_at ws 0 ws[0] (List.getElem?_eq_getElem (by omega)) 0 (by omega)).trans rfl)
    obtain ⟨g, o, sp⟩ := ad
    have hspot : sp = none := by simpa [Addr.add] using World.cell?_spot c0
    subst hspot
    have ha : ∀ r, (⟨g, o, none⟩ : Addr).add r = ⟨g, o + r, none⟩ := fun r => Go.WideShapes.add_plain g o r
    refine ⟨g, o, rfl, ?_, ?_, ?_, ?_⟩
    · have := hc 0 (by omega); rw [ha] at this; exact this
    · have := hc 1 (by omega); rw [ha, ← Nat.add_assoc] at this; exact this
    · have := hc 2 (by omega); rw [ha, ← Nat.add_assoc] at this; exact this
    · have := hc 3 (by omega); rw [ha, ← Nat.add_assoc] at this; exact this
theorem log_ext {l m : LogP} (h1 : l.addr = m.addr) (h2 : l.tops = m.tops) (h3 : l.data = m.data) : l = m := by cases l; cases m; simp only at h1 h2 h3; subst h1 h2 h3; rfl
theorem bel_drewN (w : World) (n : Nat) : Below w.heap.size w (w.drewN n) := ⟨rfl, rfl, rfl, Nat.le_refl _, fun _ _ => rfl⟩
set_option maxRecDepth 100000 in
set_option maxHeartbeats 8000000 in
theorem alogs_c {va vb : Value} {la lb : List LogP} {W : World} (hA : LogsAt W va la) (hB : LogsAt W vb lb) (hla : la.length < 4611686018427387904) (hta : ∀ l ∈ la, l.tops.length < 4611686018427387904) :
    Calls Try.prog 13 #[va, vb] W fun e W' => e = .returned (.bool (decide (la = lb))) ∧ Below W.heap.size W W' := by
  have HA := Lib.hid hA
  have HB := Lib.hid hB
  obtain ⟨pa, ca, rfl, z1⟩ := hA
  obtain ⟨pb, cb, rfl, z2⟩ := hB
  clear z1 z2
  by_cases hlen : la.length = lb.length
  · have hl2 : (la.length : Int) = (lb.length : Int) := by rw [hlen]
    rw [← hlen] at HB ⊢
    obtain ⟨k, hk⟩ : ∃ k, k = la.length := ⟨_, rfl⟩
    rw [← hk] at HA HB hla ⊢
    have HH := Lib.hid (And.intro hk (And.intro hlen (And.intro hla hta)))
    clear hk hlen hl2 hla hta
    go_enter Try.func13, Try.ntmps13
    go_wp2_with fail
    go_loopw [5] (fun iv wr => ∃ i : Nat, i ≤ k ∧ iv = .int .i64 (i : Nat) ∧ (∀ j, j < i → la[j]? = lb[j]?) ∧ Below W.heap.size W wr) (fun iv _ => k - (intOf iv).toNat)
    case atStart => exact ⟨0, Nat.zero_le _, rfl, fun _ h => absurd h (Nat.not_lt_zero _), Below.refl _ _⟩
    case round =>
      obtain ⟨i, hi, rfl, hsame, hb⟩ := hrel
      by_cases hlt : i < k
      · have hli : (i : Int) < (k : Int) := int_lt' hlt
        obtain ⟨l, hl⟩ : ∃ l, la[i]? = some l := ⟨_, List.getElem?_eq_getElem (by rw [← HH.out.1]; exact hlt)⟩
        obtain ⟨m, hm⟩ : ∃ m, lb[i]? = some m := ⟨_, List.getElem?_eq_getElem (by rw [← HH.out.2.1, ← HH.out.1]; exact hlt)⟩
        obtain ⟨pa2, ca2, e1, hall1⟩ := HA.out.below hb
        injection e1 with e1 z1 z2
        clear z1 z2
        obtain ⟨pb2, cb2, e2, hall2⟩ := HB.out.below hb
        injection e2 with e2 z1 z2
        clear z1 z2
        obtain ⟨g1, o1, t1, h1, hgl1, a0, a1, a2, aw⟩ := hall1 i l hl
        obtain ⟨g2, o2, t2, h2, hgl2, b0, b1, b2, bw⟩ := hall2 i m hm
        rw [h1] at e1
        rw [h2] at e2
        subst e1 e2
        rw [← Nat.add_assoc] at a1 a2 b1 b2
        obtain ⟨n1, hn1⟩ : ∃ n1, n1 = l.tops.length := ⟨_, rfl⟩
        obtain ⟨n2, hn2⟩ : ∃ n2, n2 = m.tops.length := ⟨_, rfl⟩
        have hT1 : ∃ q c, t1 = .slice q n1 c := by obtain ⟨q, c, e, _⟩ := aw; exact ⟨q, c, by rw [hn1]; exact e⟩
        have hT2 : ∃ q c, t2 = .slice q n2 c := by obtain ⟨q, c, e, _⟩ := bw; exact ⟨q, c, by rw [hn2]; exact e⟩
        obtain ⟨q1, c1, rfl⟩ := hT1
        obtain ⟨q2, c2, rfl⟩ := hT2
        have hs1 := eql_str l.addr m.addr
        have hs2 := eql_str l.data m.data
        have HX := Lib.hid (And.intro hl (And.intro hm (And.intro hsame (And.intro hb (And.intro aw (And.intro bw (And.intro hn1 (And.intro hn2 hlt))))))))
        clear hl hm hsame hb aw bw hn1 hn2 hlt hall1 hall2 h1 h2 hi
        by_cases c1' : l.addr = m.addr
        · rw [decide_eq_true c1'] at hs1
          by_cases c2' : l.data = m.data
          · rw [decide_eq_true c2'] at hs2
            by_cases c3' : n1 = n2
            · subst c3'
              have HE := Lib.hid (And.intro c1' c2')
              clear c1' c2'
              go_wp2_with fail
              go_quiet (fail)
              have hb2 := HX.out.2.2.2.1.trans ((bel_drewN wr nq).mono HX.out.2.2.2.1.size)
              have HW1 := Lib.hid (HX.out.2.2.2.2.1.below (bel_drewN wr nq))
              have HW2 := Lib.hid (HX.out.2.2.2.2.2.1.below (bel_drewN wr nq))
              have a1' : (wr.drewN nq).cell? ⟨g1, o1 + i * 3 + 1, none⟩ = some (.slice q1 n1 c1) := a1
              have b1' : (wr.drewN nq).cell? ⟨g2, o2 + i * 3 + 1, none⟩ = some (.slice q2 n1 c2) := b1
              have hg1' : g1 < (wr.drewN nq).heap.size := hgl1
              have hg2' : g2 < (wr.drewN nq).heap.size := hgl2
              have HB2 := Lib.hid (And.intro hb2 (And.intro a1' (And.intro b1' (And.intro hg1' hg2'))))
              clear a0 a1 a2 b0 b1 b2 hs1 hs2 hb2 a1' b1' hgl1 hgl2 hg1' hg2'
              generalize wr.drewN nq = V0 at HW1 HW2 HB2 ⊢
              go_wp2_with fail
              go_loopw [6] (fun jv wr => ∃ j : Nat, j ≤ n1 ∧ jv = .int .i64 (j : Nat) ∧ (∀ t, t < j → l.tops[t]? = m.tops[t]?) ∧ Below V0.heap.size V0 wr) (fun jv _ => n1 - (intOf jv).toNat)
              case atStart => exact ⟨0, Nat.zero_le _, rfl, fun _ h => absurd h (Nat.not_lt_zero _), Below.refl _ _⟩
              case round =>
                obtain ⟨j, hj, rfl, hsm, hb3⟩ := hrel
                have p1 := (World.cell?_of_block (hb3.block _ HB2.out.2.2.2.1)).trans HB2.out.2.1
                have p2 := (World.cell?_of_block (hb3.block _ HB2.out.2.2.2.2)).trans HB2.out.2.2.1
                by_cases hjn : j < n1
                · obtain ⟨w1, hw1⟩ : ∃ w1, l.tops[j]? = some w1 := ⟨_, List.getElem?_eq_getElem (by rw [← HX.out.2.2.2.2.2.2.1]; exact hjn)⟩
                  obtain ⟨w2, hw2⟩ : ∃ w2, m.tops[j]? = some w2 := ⟨_, List.getElem?_eq_getElem (by rw [← HX.out.2.2.2.2.2.2.2.1]; exact hjn)⟩
                  obtain ⟨gq, oq, hq1, x0, x1, x2, x3⟩ := words_at (HW1.out.below hb3) hw1
                  obtain ⟨gr, or, hq2, y0, y1, y2, y3⟩ := words_at (HW2.out.below hb3) hw2
                  subst hq1 hq2
                  have hjl : (j : Int) < (n1 : Int) := int_lt' hjn
                  have EQ := neq_wq w1 w2
                  have hwj : wrap64 ((j : Int) + 1) = (j : Int) + 1 := wrap_any (Nat.lt_of_lt_of_le hjn (by rw [HX.out.2.2.2.2.2.2.1]; exact Nat.le_of_lt (HH.out.2.2.2 l (List.mem_of_getElem? HX.out.1))))
                  unfold wqC at EQ
                  have HY := Lib.hid (And.intro hw1 (And.intro hw2 (And.intro hsm (And.intro hb3 hjn))))
                  by_cases hww : w1 = w2
                  · rw [decide_eq_true hww] at EQ
                    have HWW := Lib.hid hww
                    clear hw1 hw2 hsm hb3 hjn hww hj
                    go_wp2_with fail
                    go_quiet (fail)
                    go_wp2_with fail
                    go_roundw
                    case rel =>
                      refine ⟨j + 1, HY.out.2.2.2.2, by go_num, fun t ht => ?_, HY.out.2.2.2.1.trans ((bel_drewN _ _).mono HY.out.2.2.2.1.size)⟩
                      by_cases e : t = j
                      · rw [e, HY.out.1, HY.out.2.1, HWW.out]
                      · exact HY.out.2.2.1 t (by omega)
                    case measure => rw [hwj]; exact meas2 HY.out.2.2.2.2
                  · rw [decide_eq_false hww] at EQ
                    have hne : la ≠ lb := fun e => hww (by
                      have h1 := HX.out.1
                      rw [e, HX.out.2.1] at h1
                      cases h1
                      rw [hw1] at hw2
                      cases hw2
                      rfl)
                    have HN := Lib.hid hne
                    clear hw1 hw2 hsm hb3 hjn hww hj hne
                    go_wp2_with fail
                    go_quiet (fail)
                    go_wp2_with fail
                    go_ret
                    exact ⟨by rw [decide_eq_false HN.out]; rfl, (HB2.out.1.trans (HY.out.2.2.2.1.mono HB2.out.1.size)).trans ((bel_drewN _ _).mono (Nat.le_trans HB2.out.1.size HY.out.2.2.2.1.size))⟩
                · obtain rfl : j = n1 := Nat.le_antisymm hj (Nat.le_of_not_lt hjn)
                  have hjn' : ¬ ((j : Int) < (j : Int)) := Int.lt_irrefl _
                  have htops : l.tops = m.tops := list_same (by rw [← HX.out.2.2.2.2.2.2.1, ← HX.out.2.2.2.2.2.2.2.1]) (by rw [← HX.out.2.2.2.2.2.2.1]; exact hsm)
                  have HY := Lib.hid (And.intro htops hb3)
                  have hwi : wrap64 ((i : Int) + 1) = (i : Int) + 1 := wrap_any (Nat.lt_trans HX.out.2.2.2.2.2.2.2.2 HH.out.2.2.1)
                  clear htops hsm hb3 hjn hj
                  go_wp2_with fail
                  go_roundw
                  case rel =>
                    refine ⟨i + 1, HX.out.2.2.2.2.2.2.2.2, by go_num, fun t ht => ?_, HB2.out.1.trans (HY.out.2.mono HB2.out.1.size)⟩
                    by_cases e : t = i
                    · rw [e, HX.out.1, HX.out.2.1, log_ext HE.out.1 HY.out.1 HE.out.2]
                    · exact HX.out.2.2.1 t (by omega)
                  case measure => rw [hwi]; exact meas2 HX.out.2.2.2.2.2.2.2.2
            · have hnn : ¬ ((n1 : Int) = (n2 : Int)) := by omega
              have hne : la ≠ lb := fun e => c3' (by have h1 := HX.out.1; rw [e, HX.out.2.1] at h1; cases h1; rw [HX.out.2.2.2.2.2.2.1, HX.out.2.2.2.2.2.2.2.1])
              have HN := Lib.hid hne
              clear c1' c2' c3' hne
              go_wp2_with fail
              go_quiet (fail)
              go_wp2_with fail
              go_ret
              exact ⟨by rw [decide_eq_false HN.out]; rfl, HX.out.2.2.2.1.trans ((bel_drewN _ _).mono HX.out.2.2.2.1.size)⟩
          · rw [decide_eq_false c2'] at hs2
            have hne : la ≠ lb := fun e => c2' (by have h1 := HX.out.1; rw [e, HX.out.2.1] at h1; cases h1; rfl)
            have HN := Lib.hid hne
            clear c1' c2' hne
            go_wp2_with fail
            go_quiet (fail)
            go_wp2_with fail
            go_ret
            exact ⟨by rw [decide_eq_false HN.out]; rfl, HX.out.2.2.2.1.trans ((bel_drewN _ _).mono HX.out.2.2.2.1.size)⟩
        · rw [decide_eq_false c1'] at hs1
          have hne : la ≠ lb := fun e => c1' (by have h1 := HX.out.1; rw [e, HX.out.2.1] at h1; cases h1; rfl)
          have HN := Lib.hid hne
          clear c1' hne hs2
          go_wp2_with fail
          go_quiet (fail)
          go_wp2_with fail
          go_ret
          exact ⟨by rw [decide_eq_false HN.out]; rfl, HX.out.2.2.2.1.trans ((bel_drewN _ _).mono HX.out.2.2.2.1.size)⟩
      · obtain rfl : i = k := Nat.le_antisymm hi (Nat.le_of_not_lt hlt)
        have hni : ¬ ((i : Int) < (i : Int)) := Int.lt_irrefl _
        have HX := Lib.hid (And.intro hsame hb)
        clear hsame hb hi hlt
        go_wp2_with fail
        go_ret
        have e : la = lb := list_same HH.out.2.1 (by rw [← HH.out.1]; exact HX.out.1)
        exact ⟨by rw [decide_eq_true e]; rfl, HX.out.2⟩
  · have hne : la ≠ lb := fun e => hlen (by rw [e])
    have hli : ¬ ((la.length : Int) = (lb.length : Int)) := by omega
    rw [decide_eq_false hne]
    clear HA HB hlen hne hla hta
    go_enter Try.func13, Try.ntmps13
    go_wp2_with fail
    go_ret
    exact ⟨rfl, Below.refl _ _⟩
end Go.Proofs.Ytginibphicmmmaa
